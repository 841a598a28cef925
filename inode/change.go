package inode

import "granary/api"

// setAll is every bit that SetAttr's Has can have.
const setAll = api.SetMode | api.SetUid | api.SetGid | api.SetSize | api.SetAtime | api.SetMtime | api.SetAtimeNow | api.SetMtimeNow

// Apply: P12.5.
func Apply(x api.Inode, s api.SetAttr, now uint64) (api.Inode, bool, api.Errno) {
	if e := Check(x); e != api.OK {
		return api.Inode{}, false, e
	}
	if !canSet(x.Kind, s) {
		return api.Inode{}, false, api.ErrRange
	}
	sized := has(s, api.SetSize) && s.Size != x.Size
	if sized {
		x.Mtime = now // ahead of setTimes, so that what s sets holds
	}
	return setTimes(setFields(x, s), s, now), sized, api.OK
}

// has: all of these bits are set.
func has(s api.SetAttr, bits int) bool { return s.Has&bits == bits }

// canSet: of a kind all that s sets may be set so, and no time is set twice.
func canSet(kind int, s api.SetAttr) bool {
	switch {
	case s.Has&^setAll != 0:
		return false
	case has(s, api.SetAtime|api.SetAtimeNow) || has(s, api.SetMtime|api.SetMtimeNow):
		return false
	case has(s, api.SetMode) && s.Mode > mostMode:
		return false
	case has(s, api.SetSize) && !canSize(kind, s.Size):
		return false
	}
	return true
}

// canSize: that is a size which something of the kind can be given.
func canSize(kind int, size uint64) bool { return kind == api.KindFile && size <= api.MaxFile }

// setFields is x with what s sets besides times.
func setFields(x api.Inode, s api.SetAttr) api.Inode {
	if has(s, api.SetMode) {
		x.Mode = s.Mode
	}
	if has(s, api.SetUid) {
		x.Uid = s.Uid
	}
	if has(s, api.SetGid) {
		x.Gid = s.Gid
	}
	if has(s, api.SetSize) {
		x.Size = s.Size
	}
	return x
}

// setTimes is x with the times that s sets, and the time of the change itself.
func setTimes(x api.Inode, s api.SetAttr, now uint64) api.Inode {
	if has(s, api.SetAtime) {
		x.Atime = s.Atime
	}
	if has(s, api.SetMtime) {
		x.Mtime = s.Mtime
	}
	which := 0
	if has(s, api.SetAtimeNow) {
		which |= api.TouchAtime
	}
	if has(s, api.SetMtimeNow) {
		which |= api.TouchMtime
	}
	if s.Has != 0 {
		which |= api.TouchCtime
	}
	return Touch(x, which, now)
}

// Touch: P12.6.
func Touch(x api.Inode, which int, now uint64) api.Inode {
	if which&api.TouchAtime != 0 {
		x.Atime = now
	}
	if which&api.TouchMtime != 0 {
		x.Mtime = now
	}
	if which&api.TouchCtime != 0 {
		x.Ctime = now
	}
	return x
}

// Linked: P12.6. by is held against what is left on each side, since a sum with any int may wrap round.
func Linked(x api.Inode, by int, now uint64) (api.Inode, api.Errno) {
	if e := Check(x); e != api.OK {
		return api.Inode{}, e
	}
	links := int(x.Links)
	if by < -links || by > api.MaxLinks-links {
		return api.Inode{}, api.ErrLinks
	}
	x.Links = uint32(links + by)
	return Touch(x, api.TouchCtime, now), api.OK
}

// Sized: P12.6.
func Sized(x api.Inode, size uint64, now uint64) (api.Inode, api.Errno) {
	if e := Check(x); e != api.OK {
		return api.Inode{}, e
	}
	if !canSize(x.Kind, size) {
		return api.Inode{}, api.ErrRange
	}
	x.Size = size
	return Touch(x, api.TouchMtime|api.TouchCtime, now), api.OK
}
