package exo

import (
	"slices"

	"onionskin/abi"
	"onionskin/api"
	"onionskin/bind"
	"onionskin/disk"
	"onionskin/frames"
	"onionskin/word"
)

// wordBytes is how many bytes a word has.
const wordBytes = 4

// failed answers an error, and nothing else.
func failed(err api.Errno) api.Reply { return api.Reply{Err: err} }

// number answers a number.
func number(n int) api.Reply { return api.Reply{N: n} }

// truth answers 1, if something is so, else 0.
func truth(so bool) api.Reply {
	if so {
		return number(1)
	}
	return number(0)
}

// found answers a number, if there is one, else an error.
func found(n int, ok bool, otherwise api.Errno) api.Reply {
	if !ok {
		return failed(otherwise)
	}
	return number(n)
}

// Call does a call of an environment.
func (x *Exo) Call(e int, c api.Call) api.Reply {
	if x.of(e) == nil {
		return failed(api.EDEAD)
	}
	if err := abi.Check(c); err != api.OK {
		return failed(err)
	}
	if abi.Own(c.Op) {
		return x.aboutNames(e, c)
	}
	meant, ok := abi.Renamed(c, x.meaning(e))
	if !ok {
		return failed(api.EPERM)
	}
	return x.do(e, meant)
}

// meaning tells what an environment's names mean. From there on a call has things for names, none but the environment's own.
func (x *Exo) meaning(e int) func(kind, name int) (int, bool) {
	return func(kind, name int) (int, bool) { return x.Names(e, kind).Get(name) }
}

// aboutNames answers what is asked about an environment's names alone.
func (x *Exo) aboutNames(e int, c api.Call) api.Reply {
	kind, name := c.Arg[0], c.Arg[1]
	table := x.Names(e, kind)
	switch c.Op {
	case api.CHas:
		_, ok := table.Get(name)
		return truth(ok)
	case api.CCount:
		return number(table.Len())
	case api.CNext:
		all := table.Names()
		next, _ := slices.BinarySearch(all, name)
		if next == len(all) {
			return failed(api.ENOENT)
		}
		return number(all[next])
	case api.CWanted:
		wanted, ok := x.wants.First(e, kind)
		return found(wanted, ok, api.ENOENT)
	case api.CGive:
		return failed(x.Revoke(e, kind, name))
	case api.CDepth:
		return number(api.MaxDepth)
	}
	return api.Reply{} // Yield, Nop
}

// do does a call that has things for names.
func (x *Exo) do(e int, c api.Call) api.Reply {
	switch {
	case c.Op <= api.CSwap:
		return x.ofFrames(c)
	case c.Op <= api.CGuard:
		return x.ofSpace(e, c)
	case c.Op == api.CRun:
		return x.run(e, c.Arg[0], c.Arg[1], c.Program)
	case c.Op == api.CPeek || c.Op == api.CPoke:
		return x.ofAddress(c)
	case c.Op == api.CUses:
		return number(len(x.bindings.Uses(c.Arg[0])))
	case c.Op == api.CSave:
		return x.save(c.Arg[0], c.Arg[1])
	case c.Op <= api.CAlike:
		return x.ofBlock(c)
	}
	return x.ofPort(c)
}

// ofFrames does what has to do with what frames hold.
func (x *Exo) ofFrames(c api.Call) api.Reply {
	frame, second := c.Arg[0], c.Arg[1]
	holds, _ := x.mem.Page(frame)
	switch c.Op {
	case api.CGet:
		return number(int(holds[second]))
	case api.CPut:
		x.mem.Put(frame, second, uint32(c.Arg[2]))
	case api.CPage:
		return api.Reply{Words: api.Words(holds)}
	case api.CLay:
		x.mem.Lay(frame, frames.Page(c.Words))
	case api.CCopy:
		x.mem.Copy(frame, second)
	case api.CClear:
		x.mem.Lay(frame, frames.Page{})
	case api.CSame:
		other, _ := x.mem.Page(second)
		return truth(holds == other)
	case api.CSum:
		sum := uint32(0)
		for _, w := range holds {
			sum += w
		}
		return number(int(sum))
	case api.CFind:
		at := slices.Index(holds[:], uint32(second))
		return found(at, at >= 0, api.ENOENT)
	case api.CSwap:
		other, _ := x.mem.Page(second)
		x.mem.Lay(frame, other)
		x.mem.Lay(second, holds)
	}
	return api.Reply{}
}

// ofSpace does what has to do with where a space's pages lie. What is bound otherwise than it was, the TLB forgets.
func (x *Exo) ofSpace(e int, c api.Call) api.Reply {
	space, page := c.Arg[0], c.Arg[1]
	b, isBound := x.bindings.Get(space, page)
	switch c.Op {
	case api.CBind:
		x.rebind(space, page, bind.Binding{Frame: c.Arg[2], Write: c.Arg[3] == 1})
	case api.CUnbind:
		if !isBound {
			return failed(api.ENOENT)
		}
		x.bindings.Drop(space, page)
		x.tlb.DropPage(space, page)
	case api.CGuard:
		if !isBound {
			return failed(api.ENOENT)
		}
		x.rebind(space, page, bind.Binding{Frame: b.Frame})
	case api.CBound:
		if !isBound {
			return failed(api.ENOENT)
		}
		name, _ := x.Names(e, api.Frame).Find(b.Frame)
		return number(2*name + truth(b.Write).N)
	case api.CEmpty:
		x.tlb.DropSpace(space)
		return number(x.bindings.Empty(space))
	case api.CPages:
		return number(len(x.bindings.Pages(space)))
	}
	return api.Reply{}
}

// rebind binds a page, of which the TLB may have an entry still.
func (x *Exo) rebind(space, page int, b bind.Binding) {
	x.bindings.Put(space, page, b)
	x.tlb.DropPage(space, page)
}

// ofAddress gets, or puts, the word at an address of a space.
func (x *Exo) ofAddress(c api.Call) api.Reply {
	space, address := c.Arg[0], c.Arg[1]
	if address%wordBytes != 0 {
		return failed(api.EARG)
	}
	b, isBound := x.bindings.Get(space, address/api.PageBytes)
	if !isBound || c.Op == api.CPoke && !b.Write {
		return failed(api.EFAULT)
	}
	at := address % api.PageBytes / wordBytes
	if c.Op == api.CPoke {
		x.mem.Put(b.Frame, at, uint32(c.Arg[2]))
		return api.Reply{}
	}
	w, _ := x.mem.Get(b.Frame, at)
	return number(int(w))
}

// wordsOf tells a block's bytes as words.
func wordsOf(d disk.Data) api.Words { return api.Words(word.Words(d[:])) }

// dataOf tells words as a block's bytes.
func dataOf(w api.Words) disk.Data { return disk.Data(word.Flat(w[:])) }

// ofBlock does what has to do with a block, and with what else comes second.
func (x *Exo) ofBlock(c api.Call) api.Reply {
	block, second := c.Arg[0], c.Arg[1]
	data, _ := x.disk.Read(block)
	switch c.Op {
	case api.CRead:
		return api.Reply{Words: wordsOf(data)}
	case api.CWrite:
		x.disk.Write(block, dataOf(c.Words))
	case api.CZero:
		x.disk.Write(block, disk.Data{})
	case api.CFetch:
		x.mem.Lay(second, frames.Page(wordsOf(data)))
	case api.CFlush:
		x.disk.Settle(func(waits int) bool { return waits == block })
	case api.CWaits:
		return truth(slices.Contains(x.disk.Waiting(), block))
	case api.CAlike:
		other, _ := x.disk.Read(second)
		return truth(data == other)
	}
	return api.Reply{}
}

// save writes a block with what a frame holds.
func (x *Exo) save(frame, block int) api.Reply {
	holds, _ := x.mem.Page(frame)
	x.disk.Write(block, dataOf(api.Words(holds)))
	return api.Reply{}
}

// ofPort does what has to do with a port.
func (x *Exo) ofPort(c api.Call) api.Reply {
	p := &x.ports[c.Arg[0]]
	switch c.Op {
	case api.CSend:
		if !p.Send(uint32(c.Arg[1])) {
			return failed(api.EAGAIN)
		}
	case api.CReceive:
		w, ok := p.Receive()
		return found(int(w), ok, api.EAGAIN)
	case api.CQueued:
		return number(p.Len())
	case api.CDrain:
		return number(p.Clear())
	}
	return api.Reply{}
}
