package alloc

import "granary/api"

// Take: P10.3.
func (a *Alloc) Take(from int) (int, api.Errno) {
	if e := a.check(from); e != api.OK {
		return 0, e
	}
	if !a.spare() {
		return 0, api.ErrSpace
	}
	return a.takeFree(from), api.OK
}

// TakeReserved: P10.3.
func (a *Alloc) TakeReserved(from int) (int, api.Errno) {
	if e := a.check(from); e != api.OK {
		return 0, e
	}
	if a.reserved == 0 {
		return 0, api.ErrSpace
	}
	a.reserved--
	return a.takeFree(from), api.OK
}

// Give: P10.4.
func (a *Alloc) Give(b int) api.Errno {
	if e := a.check(b); e != api.OK {
		return e
	}
	switch a.states[b] {
	case api.BlockUsed:
		a.set(b, api.BlockGiven)
	case api.BlockTaken:
		a.set(b, api.BlockFree)
	default:
		return api.ErrState
	}
	return api.OK
}

// Mark: P10.4.
func (a *Alloc) Mark(b int) api.Errno {
	if e := a.check(b); e != api.OK {
		return e
	}
	if a.states[b] != api.BlockFree || !a.spare() {
		return api.ErrState
	}
	a.set(b, api.BlockTaken)
	return api.OK
}

// Reserve: P10.5.
func (a *Alloc) Reserve(n int) api.Errno {
	if a == nil {
		return api.ErrNone
	}
	if n < 0 {
		return api.ErrArg
	}
	if n > a.free-a.reserved {
		return api.ErrSpace
	}
	a.reserved += n
	return api.OK
}

// Release: P10.5.
func (a *Alloc) Release(n int) api.Errno {
	if a == nil {
		return api.ErrNone
	}
	if n < 0 || n > a.reserved {
		return api.ErrArg
	}
	a.reserved -= n
	return api.OK
}

// check: there is an Alloc, and it has such a block.
func (a *Alloc) check(b int) api.Errno {
	if a == nil {
		return api.ErrNone
	}
	if !a.has(b) {
		return api.ErrArg
	}
	return api.OK
}

// spare: some free block is not reserved.
func (a *Alloc) spare() bool { return a.free > a.reserved }

// takeFree takes the first free block from from on, or the first of all. Some block must be free.
func (a *Alloc) takeFree(from int) int {
	b := a.next(api.BlockFree, from)
	if b < 0 {
		b = a.next(api.BlockFree, 0)
	}
	a.set(b, api.BlockTaken)
	return b
}
