package typing_test

// level is a frame of the model, with the operands that were pushed since it began.
type level struct {
	label, ends, own []uint8
	dead             bool
}

// model is the chapter's words, with each frame's operands apart; under has those that no frame has. What was done makes another model, so that what does not come about leaves the one that was.
type model struct {
	under  []uint8
	levels []level
	most   int
}

// listed is a copy, behind which more stand.
func listed(l []uint8, more ...uint8) []uint8 {
	return append(append(make([]uint8, 0, len(l)+len(more)), l...), more...)
}

func modelOf(ends ...uint8) model {
	return model{}.opened(ends, ends)
}

func (m model) height() int {
	n := len(m.under)
	for _, v := range m.levels {
		n += len(v.own)
	}
	return n
}

// inner is another model, whose innermost frame is v.
func (m model) inner(v level) model {
	n := len(m.levels) - 1
	m.levels = append(append([]level{}, m.levels[:n]...), v)
	return m
}

func (m model) pushed(l ...uint8) model {
	if n := len(m.levels); n > 0 {
		v := m.levels[n-1]
		v.own = listed(v.own, l...)
		m = m.inner(v)
	} else {
		m.under = listed(m.under, l...)
	}
	if m.height() > m.most {
		m.most = m.height()
	}
	return m
}

func (m model) opened(label, ends []uint8) model {
	m.levels = append(append([]level{}, m.levels...), level{label: listed(label), ends: listed(ends)})
	return m
}

func (m model) died() model {
	if len(m.levels) == 0 {
		return m
	}
	v := m.levels[len(m.levels)-1]
	v.own, v.dead = nil, true
	return m.inner(v)
}

// popped is with an operand taken.
func (m model) popped() (after model, t uint8, there bool) {
	if len(m.levels) == 0 {
		return m, 0, false
	}
	v := m.levels[len(m.levels)-1]
	n := len(v.own)
	switch {
	case n > 0:
		t, v.own = v.own[n-1], listed(v.own[:n-1])
		return m.inner(v), t, true
	case v.dead:
		return m, 0, true
	}
	return m, 0, false
}

// taken is with operands taken by these types, one by one.
func (m model) taken(l []uint8) (after model, is bool) {
	if len(m.levels) == 0 {
		return m, false
	}
	after = m
	for i := len(l) - 1; i >= 0; i-- {
		var t uint8
		var there bool
		after, t, there = after.popped()
		if !there {
			return m, false
		}
		if t != 0 && l[i] != 0 && t != l[i] {
			return m, false
		}
	}
	return after, true
}

func (m model) closed() (after model, ends []uint8, is bool) {
	if len(m.levels) == 0 {
		return m, nil, false
	}
	v := m.levels[len(m.levels)-1]
	after, is = m.taken(v.ends)
	if !is || len(after.levels[len(after.levels)-1].own) > 0 {
		return m, nil, false
	}
	after.levels = after.levels[:len(after.levels)-1]
	return after, v.ends, true
}

func (m model) labelled(n uint32) ([]uint8, bool) {
	for i := len(m.levels) - 1; i >= 0; i-- {
		if n == 0 {
			return m.levels[i].label, true
		}
		n--
	}
	return nil, false
}
