package gateway

import (
	"slices"

	"dunnage/api"
)

// Run returns the outputs of a script.
func Run(conf, key []byte, l []api.Step) ([]api.Out, api.Errno) {
	w, e := New(conf, key)
	if e != api.OK {
		return nil, e
	}
	if len(l) > api.MaxSteps {
		return nil, api.ErrMany
	}
	g, e := gateOf(w)
	if e != api.OK {
		return nil, e
	}
	for _, s := range l {
		// A script goes on after a step with an error, which is as if it were not there.
		_ = g.do(s)
	}
	return g.outs, api.OK
}

// Project returns the projection of a script to a tenant.
func Project(l []api.Step, t int) []api.Step {
	var own []api.Step
	for _, s := range l {
		if concerns(s, t) {
			s.Bytes = slices.Clone(s.Bytes)
			own = append(own, s)
		}
	}
	return own
}

// Port returns the outputs at a port.
func Port(l []api.Out, t int) []api.Out {
	var own []api.Out
	for _, o := range l {
		if o.Tenant == t {
			o.Bytes = slices.Clone(o.Bytes)
			own = append(own, o)
		}
	}
	return own
}

// concerns reports whether a step belongs to the projection of a script to a tenant.
func concerns(s api.Step, t int) bool {
	switch s.Kind {
	case api.StepTick:
		return true
	case api.StepBytes, api.StepStall, api.StepMint:
		return s.Tenant == t
	}
	return false
}
