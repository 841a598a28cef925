package inode

import (
	"slices"

	"granary/api"
)

// The permissions, as three bits of a mode tell them to an owner, to a group, or to others.
const (
	mayRead    = 4
	mayWrite   = 2
	mayExecute = 1
	mayAll     = mayRead | mayWrite | mayExecute

	ownerShift = 6
	groupShift = 3
)

// Access: P12.7.
func Access(x api.Inode, uid uint32, gids []uint32, want uint32) uint32 {
	if Check(x) != api.OK {
		return 0
	}
	may := permissions(x, uid, gids)
	granted := uint32(0)
	for permission := uint32(mayExecute); permission <= mayRead; permission <<= 1 {
		granted |= grant(may&permission, x.Kind == api.KindDir)
	}
	return granted & want
}

// permissions is those three bits of the mode that tell what whoever asks may; uid 0 may all.
func permissions(x api.Inode, uid uint32, gids []uint32) uint32 {
	switch {
	case uid == 0:
		return mayAll
	case uid == x.Uid:
		return x.Mode >> ownerShift & mayAll
	case slices.Contains(gids[:min(len(gids), api.MaxGids)], x.Gid):
		return x.Mode >> groupShift & mayAll
	}
	return x.Mode & mayAll
}

// grant is what one permission grants (0: none); writing to a directory is what it is to others, and more.
func grant(permission uint32, dir bool) uint32 {
	granted := uint32(0)
	switch {
	case permission == mayRead:
		granted = api.AccessRead
	case permission == mayWrite && dir:
		granted = api.AccessDelete
		fallthrough
	case permission == mayWrite:
		granted |= api.AccessModify | api.AccessExtend
	case permission == mayExecute && dir:
		granted = api.AccessLookup
	case permission == mayExecute:
		granted = api.AccessExecute
	}
	return granted
}
