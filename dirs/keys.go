package dirs

import "granary/api"

// kind is what a key is for; each kind's keys begin with a letter of its own, and a directory's number.
type kind int

const (
	byName   kind = iota // and the name: has the entry's cookie
	byCookie             // and the cookie: has the entry's number, and its name
	ofItself             // and nothing else: has the cookie of the directory's next entry
)

// letters is the letters of the kinds, in their order.
const letters = "ncd"

const (
	numberBytes = 8
	headBytes   = 1 + numberBytes // the letter and the directory's number
	lastCookie  = 1<<64 - 1       // no cookie is above that
)

// key is how all keys of the kind begin that belong to the directory.
func (k kind) key(dir uint64) []byte { return layNumber([]byte{letters[k]}, dir) }

func nameKey(dir uint64, name string) []byte { return append(byName.key(dir), name...) }

func cookieKey(dir, cookie uint64) []byte { return layNumber(byCookie.key(dir), cookie) }

func dirKey(dir uint64) []byte { return ofItself.key(dir) }

// cookieOf is the cookie of a key that cookieKey made.
func cookieOf(key []byte) uint64 { return readNumber(key[headBytes:]) }

// behind is the least key above the key, which it takes over.
func behind(key []byte) []byte { return append(key, 0) }

// entryValue is what the key of an entry's cookie has.
func entryValue(name string, ino uint64) []byte { return append(layNumber(nil, ino), name...) }

// readEntry is the entry of a cookie whose key has these bytes.
func readEntry(cookie uint64, p []byte) api.Entry {
	at := min(numberBytes, len(p))
	return api.Entry{Name: string(p[at:]), Ino: readNumber(p[:at]), Cookie: cookie}
}

// layNumber is out with the number behind it, the highest byte first: so keys are in the order of their numbers.
func layNumber(out []byte, n uint64) []byte {
	for shift := 8 * (numberBytes - 1); shift >= 0; shift -= 8 {
		out = append(out, byte(n>>shift))
	}
	return out
}

// readNumber is the number that the bytes are.
func readNumber(p []byte) uint64 {
	n := uint64(0)
	for _, c := range p {
		n = n<<8 | uint64(c)
	}
	return n
}
