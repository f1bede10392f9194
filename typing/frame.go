package typing

// frame is a block that is open, from the height at which it began; its types are of memory of its own.
type frame struct {
	label, ends []uint8
	height      int
	dead        bool
}

// innermost is nil where no frame is open.
func (s *Stack) innermost() *frame {
	if s.Frames() == 0 {
		return nil
	}
	return &s.frames[len(s.frames)-1]
}

// without tells the height that is left if operands are taken by types l. None is taken yet: they go all, or none does.
func (s *Stack) without(l ...uint8) (height int, ok bool) {
	f := s.innermost()
	if f == nil {
		return 0, false
	}
	own := s.operands[f.height:]
	if len(own) < len(l) && !f.dead {
		return 0, false
	}
	n := min(len(own), len(l))
	for i := 1; i <= n; i++ {
		if !fits(own[len(own)-i], l[len(l)-i]) {
			return 0, false
		}
	}
	return len(s.operands) - n, true
}

// fits holds types against each other; 0 is any one.
func fits(t, u uint8) bool { return t == u || t == 0 || u == 0 }

func (s *Stack) leave(height int) { s.operands = s.operands[:height] }
