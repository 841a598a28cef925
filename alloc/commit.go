package alloc

import "granary/api"

// Commit: P10.6.
func (a *Alloc) Commit() ([]int, []int) {
	if a == nil {
		return nil, nil
	}
	taken, given := a.all(api.BlockTaken), a.all(api.BlockGiven)
	a.setAll(taken, api.BlockUsed)
	if a.holds > 0 {
		a.setAll(given, api.BlockHeld)
	} else {
		a.setAll(given, api.BlockFree)
	}
	return taken, given
}

// Abort: P10.6.
func (a *Alloc) Abort() {
	if a == nil {
		return
	}
	a.setAll(a.all(api.BlockTaken), api.BlockFree)
	a.setAll(a.all(api.BlockGiven), api.BlockUsed)
}

// Hold: P10.6.
func (a *Alloc) Hold() {
	if a != nil {
		a.holds++
	}
}

// LetGo: P10.6.
func (a *Alloc) LetGo() []int {
	if a == nil || a.holds == 0 {
		return nil
	}
	a.holds--
	if a.holds > 0 {
		return nil
	}
	held := a.all(api.BlockHeld)
	a.setAll(held, api.BlockFree)
	return held
}

// Holds: P10.6.
func (a *Alloc) Holds() int {
	if a == nil {
		return 0
	}
	return a.holds
}
