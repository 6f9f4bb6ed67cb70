package code

import (
	"burgage/api"
)

// halt is thrown where bytes are none that Encode makes, and by its type told from all else that may be thrown.
type halt struct{}

// reader has the bytes that are not read yet.
type reader struct{ rest []byte }

// changes reads whatever numbers stand in the bytes, and has Check ask afterwards whether they may be: what
// passes is written in one way alone, so that these were the bytes of it.
func (r *reader) changes() []api.Change {
	var l []api.Change
	for range r.number() {
		l = append(l, r.change())
	}
	if Check(l) != nil {
		panic(halt{})
	}
	return l
}

func (r *reader) change() api.Change {
	n := r.number()
	if n >= goneMark {
		return api.Change{Key: r.text(n - goneMark), Gone: true}
	}
	key := r.text(n)
	return api.Change{Key: key, Value: r.text(r.number())}
}

func (r *reader) number() int {
	return int(r.text(1)[0])
}

func (r *reader) text(n int) string {
	if n > len(r.rest) {
		panic(halt{})
	}
	text := string(r.rest[:n])
	r.rest = r.rest[n:]
	return text
}

// end halts at bytes behind the last change.
func (r *reader) end() {
	if len(r.rest) > 0 {
		panic(halt{})
	}
}
