package log_test

import (
	"math/rand"
	"slices"
	"strings"
	"testing"

	"burgage/api"
	"burgage/log"
	"burgage/plain"
)

// model is a log as the chapter tells it: each byte by itself, with whether it is safe, and beside them how many
// bytes each list that was done has.
type model struct {
	room  int
	bytes []safeByte
	lists []list
	sizes []int
	off   bool
	// steps were taken since Fail, which asked for fails of them.
	steps, fails int
}

type safeByte struct {
	b    byte
	safe bool
}

func (m *model) half() bool {
	m.off = m.off || m.fails >= 0 && m.steps == m.fails
	m.steps++
	return m.off
}

func (m *model) append(l list, text string, told api.Errno) api.Errno {
	switch {
	case told != api.OK:
		return told
	case len(m.bytes)+len(text) > m.room:
		return api.ErrFull
	case m.off:
		return api.ErrDown
	case m.half():
		m.write(text[:len(text)/2])
		return api.ErrDown
	}
	m.write(text)
	m.lists, m.sizes = append(m.lists, l), append(m.sizes, len(text))
	return api.OK
}

func (m *model) write(text string) {
	for i := range len(text) {
		m.bytes = append(m.bytes, safeByte{b: text[i]})
	}
}

func (m *model) allSafe() {
	for i := range m.bytes {
		m.bytes[i].safe = true
	}
}

func (m *model) sync() api.Errno {
	if m.half() {
		return api.ErrDown
	}
	m.allSafe()
	return api.OK
}

func (m *model) fail(n int) { m.steps, m.fails = 0, n }

func (m *model) crash(keep int) {
	m.bytes = slices.DeleteFunc(m.bytes, func(b safeByte) bool {
		if b.safe {
			return false
		}
		keep--
		return keep < 0
	})
	end, n := 0, 0
	for n < len(m.sizes) && end+m.sizes[n] <= len(m.bytes) {
		end, n = end+m.sizes[n], n+1
	}
	m.bytes, m.lists, m.sizes = m.bytes[:end], m.lists[:n], m.sizes[:n]
	m.allSafe()
	m.off = false
	m.fail(-1)
}

func (m *model) text() string {
	var b strings.Builder
	for _, s := range m.bytes {
		b.WriteByte(s.b)
	}
	return b.String()
}

func (m *model) safe() int {
	return len(slices.DeleteFunc(slices.Clone(m.bytes), func(b safeByte) bool { return !b.safe }))
}

// act is a call on a log and on its model, that tells both errors.
type act func(g *log.Log, m *model) (error, api.Errno)

func appending(l list, text string, told api.Errno) act {
	return func(g *log.Log, m *model) (error, api.Errno) { return g.Append(l), m.append(l, text, told) }
}

func failing(n int) act {
	return func(g *log.Log, m *model) (error, api.Errno) { g.Fail(n); m.fail(n); return nil, api.OK }
}

func crashing(keep int) act {
	return func(g *log.Log, m *model) (error, api.Errno) { g.Crash(keep); m.crash(keep); return nil, api.OK }
}

func syncing(g *log.Log, m *model) (error, api.Errno) { return g.Sync(), m.sync() }

func acts() []act {
	return []act{
		appending(nil, noneBytes, api.OK),
		appending(kv, kvBytes, api.OK),
		appending(list{{Key: "k", Gone: true}}, "\x00\x03\x01\x81k", api.OK),
		appending(list{{}}, "", api.ErrShape),
		syncing,
		failing(-1), failing(0), failing(1),
		crashing(-1), crashing(0), crashing(3), crashing(9),
	}
}

// follow does acts one by one, and looks at all that is told behind each.
func follow(t *testing.T, room int, picks []int) {
	t.Helper()
	all := acts()
	g, m := fresh(t, room), &model{room: room, fails: -1}
	for i, pick := range picks {
		err, told := all[pick](g, m)
		if plain.Told(err) != told {
			t.Fatalf("room %d, %v: tells %v, want %v", room, picks[:i+1], err, told)
		}
		if string(g.Bytes()) != m.text() || g.Safe() != m.safe() ||
			!slices.EqualFunc(g.Read(), m.lists, slices.Equal[list]) {
			t.Fatalf("room %d, %v: %q %d %+v, want %q %d %+v", room, picks[:i+1],
				g.Bytes(), g.Safe(), g.Read(), m.text(), m.safe(), m.lists)
		}
	}
}

// TestL1L2SmallWorld has each row of four acts, in rooms in which they find place and in which they do not.
func TestL1L2SmallWorld(t *testing.T) {
	n := len(acts())
	for row := range n * n * n * n {
		picks := []int{row % n, row / n % n, row / n / n % n, row / n / n / n}
		for _, room := range []int{3, 8, 13, 40} {
			follow(t, room, picks)
		}
	}
}

func TestL1L2Model(t *testing.T) {
	r := rand.New(rand.NewSource(9))
	n := len(acts())
	for range 3000 {
		picks := make([]int, 60)
		for i := range picks {
			picks[i] = r.Intn(n)
		}
		follow(t, r.Intn(90), picks)
	}
}
