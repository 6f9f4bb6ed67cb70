package desk_test

import (
	"fmt"
	"maps"
	"math/rand"
	"slices"
	"testing"

	"burgage/api"
	"burgage/desk"
	"burgage/plain"
)

// world is what is there at one time, by its keys.
type world map[string]string

func (w world) within(low, high string) pairs {
	var l pairs
	for _, key := range slices.Sorted(maps.Keys(w)) {
		if low <= key && key < high {
			l = append(l, api.Pair{Key: key, Value: w[key]})
		}
	}
	return l
}

func (w world) take(c api.Change) {
	if c.Gone {
		delete(w, c.Key)
	} else {
		w[c.Key] = c.Value
	}
}

// deal is a transaction with a whole world of its own.
type deal struct {
	sees  int
	mine  world
	own   map[string]api.Change
	asked []func(key string) bool
}

// row is a version.
type row struct {
	key  string
	at   int
	gone bool
}

// model is a desk as the chapter tells it: a world behind each commit, from the empty one on.
type model struct {
	room    int
	worlds  []world
	commits []map[string]api.Change
	rows    []row
	open    map[int]*deal
	ids     int
	safe    int
	// half is how many bytes there are of a list that was not done.
	half  int
	off   bool
	steps int
}

func newModel(room int) *model {
	return &model{room: room, worlds: []world{{}}, open: map[int]*deal{}, steps: -1}
}

func size(l map[string]api.Change) int {
	n := 3
	for _, c := range l {
		n += 1 + len(c.Key)
		if !c.Gone {
			n += 1 + len(c.Value)
		}
	}
	return n
}

func (m *model) bytes() int {
	n := m.half
	for _, l := range m.commits {
		n += size(l)
	}
	return n
}

// step of the log: is it done?
func (m *model) step() bool {
	m.off = m.off || m.steps == 0
	m.steps--
	return !m.off
}

func (m *model) begin() (int, api.Errno) {
	if len(m.open) == api.MaxOpen {
		return 0, api.ErrFull
	}
	if m.off {
		return 0, api.ErrDown
	}
	m.ids++
	sees := len(m.commits)
	m.open[m.ids] = &deal{sees: sees, mine: maps.Clone(m.worlds[sees]), own: map[string]api.Change{}}
	return m.ids, api.OK
}

func (m *model) get(id int, key string) (string, api.Errno) {
	d := m.open[id]
	switch {
	case d == nil:
		return "", api.ErrNone
	case len(key) == 0 || len(key) > 24:
		return "", api.ErrShape
	case len(d.asked) == 100:
		return "", api.ErrFull
	}
	d.asked = append(d.asked, func(other string) bool { return other == key })
	if value, ok := d.mine[key]; ok {
		return value, api.OK
	}
	return "", api.ErrNone
}

func (m *model) within(id int, low, high string) (pairs, api.Errno) {
	d := m.open[id]
	switch {
	case d == nil:
		return nil, api.ErrNone
	case len(d.asked) == 100:
		return nil, api.ErrFull
	}
	d.asked = append(d.asked, func(other string) bool { return low <= other && other < high })
	return d.mine.within(low, high), api.OK
}

func (m *model) change(id int, c api.Change) api.Errno {
	d := m.open[id]
	if d == nil {
		return api.ErrNone
	}
	if len(c.Key) == 0 || len(c.Key) > 24 || len(c.Value) > 12 {
		return api.ErrShape
	}
	if _, ok := d.own[c.Key]; !ok && len(d.own) == 20 {
		return api.ErrFull
	}
	d.own[c.Key] = c
	d.mine.take(c)
	return api.OK
}

func (m *model) clashes(d *deal) bool {
	for _, l := range m.commits[d.sees:] {
		for key := range l {
			_, own := d.own[key]
			if own || slices.ContainsFunc(d.asked, func(has func(string) bool) bool { return has(key) }) {
				return true
			}
		}
	}
	return false
}

func (m *model) commit(id int) (int, api.Errno) {
	d := m.open[id]
	delete(m.open, id)
	switch {
	case d == nil:
		return 0, api.ErrNone
	case m.clashes(d):
		return 0, api.ErrClash
	case len(d.own) == 0:
		return d.sees, api.OK
	case m.bytes()+size(d.own) > m.room:
		return 0, api.ErrFull
	case m.off:
		return 0, api.ErrDown
	case !m.step():
		m.half = size(d.own) / 2
		return 0, api.ErrDown
	}
	m.add(d.own)
	return len(m.commits), api.OK
}

func (m *model) add(l map[string]api.Change) {
	m.commits = append(m.commits, l)
	next := maps.Clone(m.worlds[len(m.worlds)-1])
	for key, c := range l {
		next.take(c)
		m.rows = append(m.rows, row{key, len(m.commits), c.Gone})
	}
	m.worlds = append(m.worlds, next)
}

func (m *model) abort(id int) api.Errno {
	if m.open[id] == nil {
		return api.ErrNone
	}
	delete(m.open, id)
	return api.OK
}

func (m *model) flush() api.Errno {
	if m.off || !m.step() {
		return api.ErrDown
	}
	m.safe = len(m.commits)
	return api.OK
}

func (m *model) crash(keep int) {
	left := m.commits[:m.safe]
	for _, l := range m.commits[m.safe:] {
		if keep -= size(l); keep < 0 {
			break
		}
		left = append(left[:len(left):len(left)], l)
	}
	*m = model{room: m.room, worlds: []world{{}}, open: map[int]*deal{}, ids: m.ids, steps: -1, safe: len(left)}
	for _, l := range left {
		m.add(l)
	}
}

// tidy asks of each version whether another one of its key hides it from what is still seen.
func (m *model) tidy() int {
	at := len(m.commits)
	for _, d := range m.open {
		at = min(at, d.sees)
	}
	all := m.rows
	m.rows = nil
	for _, r := range all {
		hidden := slices.ContainsFunc(all, func(q row) bool { return q.key == r.key && q.at > r.at && q.at <= at })
		if r.at > at || !hidden && !r.gone {
			m.rows = append(m.rows, r)
		}
	}
	return len(all) - len(m.rows)
}

// act is a call on a desk and on its model, that tells both answers as texts.
type act func(d *desk.Desk, m *model) (got, want string)

func say(value any, told api.Errno) string { return fmt.Sprint(value, " ", told) }

func beginning(d *desk.Desk, m *model) (string, string) {
	got, err := d.Begin()
	want, told := m.begin()
	return say(got, plain.Told(err)), say(want, told)
}

func getting(id int, key string) act {
	return func(d *desk.Desk, m *model) (string, string) {
		got, err := d.Get(id, key)
		want, told := m.get(id, key)
		return say(got, plain.Told(err)), say(want, told)
	}
}

func ranging(id int, low, high string) act {
	return func(d *desk.Desk, m *model) (string, string) {
		got, err := d.Range(id, low, high)
		want, told := m.within(id, low, high)
		return say(got, plain.Told(err)), say(want, told)
	}
}

func putting(id int, key, value string) act {
	return func(d *desk.Desk, m *model) (string, string) {
		err := d.Put(id, key, value)
		return say("put", plain.Told(err)), say("put", m.change(id, api.Change{Key: key, Value: value}))
	}
}

func dropping(id int, key string) act {
	return func(d *desk.Desk, m *model) (string, string) {
		err := d.Drop(id, key)
		return say("drop", plain.Told(err)), say("drop", m.change(id, api.Change{Key: key, Gone: true}))
	}
}

func committing(id int) act {
	return func(d *desk.Desk, m *model) (string, string) {
		got, err := d.Commit(id)
		want, told := m.commit(id)
		return say(got, plain.Told(err)), say(want, told)
	}
}

func aborting(id int) act {
	return func(d *desk.Desk, m *model) (string, string) {
		err := d.Abort(id)
		return say("abort", plain.Told(err)), say("abort", m.abort(id))
	}
}

func flushing(d *desk.Desk, m *model) (string, string) {
	err := d.Flush()
	return say("flush", plain.Told(err)), say("flush", m.flush())
}

func failing(n int) act {
	return func(d *desk.Desk, m *model) (string, string) { d.Fail(n); m.steps = n; return "", "" }
}

func crashing(keep int) act {
	return func(d *desk.Desk, m *model) (string, string) { d.Crash(keep); m.crash(keep); return "", "" }
}

func tidying(d *desk.Desk, m *model) (string, string) {
	return fmt.Sprint(d.Tidy()), fmt.Sprint(m.tidy())
}

// do has an act done by both, and looks at all that is told behind it.
func do(t *testing.T, d *desk.Desk, m *model, a act) {
	t.Helper()
	if got, want := a(d, m); got != want {
		t.Errorf("answers %q, want %q", got, want)
	}
	top := len(m.commits)
	wantState(t, d, top, m.safe, len(m.rows), m.worlds[top].within("", "\xff\xff"))
}

// TestD1D2D3SmallWorld has each row of four acts of two transactions that began at once.
func TestD1D2D3SmallWorld(t *testing.T) {
	acts := []act{
		beginning, flushing, tidying, failing(0), failing(1), crashing(0), crashing(7),
		getting(1, "a"), getting(2, "b"), ranging(1, "a", "c"), ranging(2, "", "b"),
		putting(1, "a", "x"), putting(2, "a", "y"), putting(2, "b", "z"), dropping(1, "b"),
		committing(1), committing(2), aborting(1),
	}
	n := len(acts)
	for row := range n * n * n * n {
		picks := []int{row % n, row / n % n, row / n / n % n, row / n / n / n}
		for _, room := range []int{7, 100} {
			d, m := fresh(t, room), newModel(room)
			for _, a := range []act{beginning, putting(1, "b", "w"), beginning} {
				do(t, d, m, a)
			}
			for _, pick := range picks {
				do(t, d, m, acts[pick])
			}
			if t.Failed() {
				t.Fatalf("room %d, %v", room, picks)
			}
		}
	}
}

func pick[E any](r *rand.Rand, l []E) E { return l[r.Intn(len(l))] }

// someAct mostly is of one of those that are open.
func someAct(r *rand.Rand, m *model) act {
	keys := []string{"a", "a\x00", "b", "c", "ca", "d", "\xff"}
	id := 1 + r.Intn(m.ids+2)
	if len(m.open) > 0 && r.Intn(8) > 0 {
		id = pick(r, slices.Sorted(maps.Keys(m.open)))
	}
	key := pick(r, keys)
	switch r.Intn(22) {
	case 0, 1, 2:
		return beginning
	case 3, 4, 5:
		return getting(id, key)
	case 6, 7:
		return ranging(id, pick(r, keys), pick(r, keys))
	case 8, 9, 10, 11:
		return putting(id, key, fmt.Sprint(r.Intn(100)))
	case 12, 13:
		return dropping(id, key)
	case 14, 15, 16, 17:
		return committing(id)
	case 18:
		return flushing
	case 19:
		return tidying
	case 20:
		return aborting(id)
	}
	return rareAct(r, id)
}

func rareAct(r *rand.Rand, id int) act {
	switch r.Intn(6) {
	case 0:
		return crashing(r.Intn(60) - 2)
	case 1:
		return failing(r.Intn(6) - 1)
	case 2:
		return getting(id, pick(r, wrongKeys))
	case 3:
		return putting(id, pick(r, []string{"", "a", longKey}), longValue+"v")
	case 4:
		return ranging(id, "", "\xff\xff")
	}
	return dropping(id, pick(r, wrongKeys))
}

// TestD1D2D3Model holds a desk to the model through many calls of all kinds.
func TestD1D2D3Model(t *testing.T) {
	for seed := range int64(300) {
		r := rand.New(rand.NewSource(seed))
		room := 20 + r.Intn(1500)
		d, m := fresh(t, room), newModel(room)
		for i := range 400 {
			do(t, d, m, someAct(r, m))
			if t.Failed() {
				t.Fatalf("seed %d, call %d", seed, i)
			}
		}
	}
}
