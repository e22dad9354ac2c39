package exo

import (
	"onionskin/api"
	"onionskin/tlb"
)

// run does a program of an environment in a space, for so many steps at the most.
func (x *Exo) run(e, space, steps int, program api.Context) api.Reply {
	r := api.Reply{Program: program, Trap: api.Trap{Cause: api.Tick}}
run:
	for r.N < steps {
		then, trap := x.cpu.Step(space, r.Program)
		switch {
		case trap.Cause == api.Miss && x.fill(space, trap.Page):
			continue // the same instruction again, now that its page is found
		case trap.Cause == api.None:
			r.N, r.Program = r.N+1, then
		case trap.Cause == api.Sys:
			r.N, r.Program, r.Trap = r.N+1, then, trap
			break run
		default:
			r.Trap = trap // nothing was done of the instruction
			break run
		}
	}
	x.meter.Spend(e, r.N)
	return r
}

// fill lays an entry of a page into the TLB; false: the page is not bound.
func (x *Exo) fill(space, page int) bool {
	b, ok := x.bindings.Get(space, page)
	if ok {
		x.tlb.Put(tlb.Entry{Space: space, Page: page, Frame: b.Frame, Write: b.Write})
	}
	return ok
}
