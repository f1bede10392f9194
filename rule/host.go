package rule

import "gabelle/api"

const env = "env" // the module of all that is offered

// Host is a function that is offered.
type Host struct {
	Name string
	Type api.FuncType
}

// Hosts: P12.1.
func Hosts() []Host {
	return []Host{
		host("input_len", nil, api.I32),
		host("input", takes(api.I32, api.I32, api.I32)),
		host("caller", takes(api.I32)),
		host("self", takes(api.I32)),
		host("value", nil, api.I64),
		host("balance", takes(api.I32), api.I64),
		host("read", takes(api.I32, api.I32, api.I32, api.I32), api.I32),
		host("write", takes(api.I32, api.I32, api.I32, api.I32)),
		host("remove", takes(api.I32, api.I32), api.I32),
		host("emit", takes(api.I32, api.I32)),
		host("call", takes(api.I32, api.I64, api.I64, api.I32, api.I32), api.I32),
		host("ret_len", nil, api.I32),
		host("ret", takes(api.I32, api.I32, api.I32)),
		host("finish", takes(api.I32, api.I32)),
		host("revert", takes(api.I32, api.I32)),
		host("gas_left", nil, api.I64),
	}
}

func host(name string, takes []uint8, gives ...uint8) Host {
	return Host{name, api.FuncType{Params: takes, Results: gives}}
}

func takes(l ...uint8) []uint8 { return l }
