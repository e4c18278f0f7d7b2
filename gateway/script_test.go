package gateway_test

import (
	"bytes"
	"slices"
	"testing"

	"dunnage/api"
	"dunnage/gateway"
)

// P10.3: Run returns the outputs of all steps of long histories, in order.
func TestRun(t *testing.T) {
	for _, h := range longHistories() {
		outs, e := gateway.Run(encoded(h.c), []byte(aKey), h.script())
		wantOuts(t, "Run", outs, e, h.outs(), api.OK)
	}
}

// P10.3: a step with an error changes nothing and has no output, and the next ones go on.
func TestRunGoesOn(t *testing.T) {
	conf, key := encoded(gapConfig()), []byte(aKey)
	bad := []api.Step{{}, {Kind: 5}, {Kind: 255}, bytesStep(1, []byte{0, 0}), bytesStep(-1, []byte{0, 0}), bytesStep(0, make([]byte, 4097)), stallStep(0, 1), stallStep(3, 0), mintStep(1, 1, 1), mintStep(0, 0, 1), mintStep(0, 1, 0), mintStep(0, 4, 1)}
	token := tokenFor(aKey, 0, api.RoleOwn, 1007, 1)
	submit := frameOf(api.Request{Kind: api.KindSubmit, Token: token})
	good := slices.Concat([]api.Step{mintStep(0, api.RoleOwn, 1000), bytesStep(0, submit[:7]), bytesStep(0, submit[7:]), stallStep(0, 0)}, ticks(40), []api.Step{mintStep(2, 1, 1)})
	wanted, e := specRun(conf, key, good)
	wantErrno(t, "the definition of Run", e, api.OK)
	if len(wanted) != 4 {
		t.Fatalf("the outputs: %v", wanted)
	}
	outs, e := gateway.Run(conf, key, good)
	wantOuts(t, "Run of a good script", outs, e, wanted, api.OK)
	var mixed []api.Step
	for i, s := range good {
		mixed = append(mixed, bad[i%len(bad)], s, bad[(i+5)%len(bad)])
	}
	outs, e = gateway.Run(conf, key, mixed)
	wantOuts(t, "Run of a script with bad steps", outs, e, wanted, api.OK)
	outs, e = gateway.Run(conf, key, bad)
	wantOuts(t, "Run of bad steps", outs, e, nil, api.OK)
	outs, e = gateway.Run(conf, key, nil)
	wantOuts(t, "Run of no steps", outs, e, nil, api.OK)
}

// P10.3: Run returns ErrMany if there are too many steps, after New's error.
func TestRunErrors(t *testing.T) {
	conf, key := encoded(exampleConfig()), []byte(aKey)
	for _, s := range []api.Step{tickStep(), {}, mintStep(0, 1, 1)} {
		outs, e := gateway.Run(conf, key, slices.Repeat([]api.Step{s}, 4097))
		wantOuts(t, "Run of too many steps", outs, e, nil, api.ErrMany)
	}
	outs, e := gateway.Run(conf, key, append(ticks(4095), mintStep(0, 1, 1)))
	if e != api.OK || len(outs) != 1 || outs[0].Tick != 4095 {
		t.Errorf("Run of as many steps as can be: %v, error %d", outs, e)
	}
	for encoding, wanted := range encodings() {
		outs, e := gateway.Run([]byte(encoding), key, []api.Step{mintStep(0, 1, 1)})
		wantOuts(t, "Run with a wrong config", outs, e, nil, wanted)
	}
	outs, e = gateway.Run(conf, nil, []api.Step{mintStep(0, 1, 1)})
	wantOuts(t, "Run with no key", outs, e, nil, api.ErrArg)
	outs, e = gateway.Run(encoded(stuckConfig()), key, []api.Step{mintStep(0, 1, 1)})
	wantOuts(t, "Run with a config that is not sound", outs, e, nil, api.ErrRoute)
}

// P10.4: Project returns the ticks, and the other steps of a tenant, in order, as they were.
func TestProject(t *testing.T) {
	l := []api.Step{
		{Kind: 1},
		{Kind: 2, Tenant: 0, Bytes: []byte{1}},
		{Kind: 2, Tenant: 1, Robot: -7, Role: 8, Life: 9, Bytes: []byte{2, 3}},
		{Kind: 1, Tenant: 5, Robot: 6, Role: 7, Life: 8, Bytes: []byte{9}},
		{Kind: 3, Tenant: 1, Robot: 2, Role: 1, Life: 4, Bytes: []byte{5}},
		{Kind: 0, Tenant: 1},
		{Kind: 5, Tenant: 1},
		{Kind: 255, Tenant: 1},
		{Kind: 4, Tenant: 1, Role: 3, Life: 9, Bytes: []byte{}},
		{Kind: 4, Tenant: 0, Role: 3},
		{Kind: 3, Tenant: -4},
		{Kind: 2, Tenant: 1},
		{Kind: 1},
	}
	for tenant, wanted := range map[int][]int{0: {0, 1, 3, 9, 12}, 1: {0, 2, 3, 4, 8, 11, 12}, 2: {0, 3, 12}, 5: {0, 3, 12}, -4: {0, 3, 10, 12}, -1: {0, 3, 12}} {
		var steps []api.Step
		for _, i := range wanted {
			steps = append(steps, l[i])
		}
		if own := gateway.Project(l, tenant); !equalSteps(own, steps) {
			t.Errorf("Project to %d: %v, want %v", tenant, own, steps)
		}
	}
	for _, tenant := range hugeNumbers {
		far := api.Step{Kind: 3, Tenant: tenant}
		if own := gateway.Project(append(slices.Clone(l), far), tenant); !equalSteps(own, []api.Step{l[0], l[3], l[12], far}) {
			t.Errorf("Project to %d: %v", tenant, own)
		}
	}
	if own := gateway.Project(nil, 0); len(own) != 0 {
		t.Errorf("Project of no steps: %v", own)
	}
}

// P10.4: Port returns the outputs of a tenant, in order, as they were.
func TestPort(t *testing.T) {
	l := []api.Out{{Tenant: 1, Tick: 9, Bytes: []byte{4}}, {Tenant: 0}, {Tenant: 1}, {Tenant: -4, Tick: 1 << 63}, {Tenant: 1, Tick: 2, Bytes: []byte{5, 6}}, {Tenant: 2, Bytes: []byte{7}}}
	for tenant, wanted := range map[int][]api.Out{0: {l[1]}, 1: {l[0], l[2], l[4]}, 2: {l[5]}, 3: nil, -4: {l[3]}, -1: nil} {
		wantOuts(t, "Port", gateway.Port(l, tenant), api.OK, wanted, api.OK)
	}
	for _, tenant := range hugeNumbers {
		far := api.Out{Tenant: tenant, Tick: 3}
		wantOuts(t, "Port of a great number", gateway.Port(append(slices.Clone(l), far), tenant), api.OK, []api.Out{far}, api.OK)
	}
	wantOuts(t, "Port of no outputs", gateway.Port(nil, 0), api.OK, nil, api.OK)
}

// P10.4: the outputs of a history are those at its ports, and each port has those of its tenant.
func TestPortsOfHistories(t *testing.T) {
	for _, h := range longHistories() {
		many := 0
		for tenant := range h.c.Teams {
			own := gateway.Port(h.outs(), tenant)
			many += len(own)
			if tenant < len(h.c.Teams) && !specIsPresent(h.c, tenant) && len(own) > 0 {
				t.Errorf("an absent tenant has the outputs %v", own)
			}
			for _, o := range own {
				if o.Tenant != tenant || !slices.ContainsFunc(h.outs(), func(x api.Out) bool { return bytes.Equal(x.Bytes, o.Bytes) }) {
					t.Errorf("the output %v at the port %d", o, tenant)
				}
			}
		}
		if many != len(h.outs()) {
			t.Errorf("%d outputs, but %d at the ports", len(h.outs()), many)
		}
	}
}
