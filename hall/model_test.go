package hall_test

import (
	"fmt"
	"math/rand"
	"slices"
	"strings"
	"testing"

	"burgage/api"
	"burgage/desk"
	"burgage/hall"
	"burgage/plain"
	"burgage/plot"
)

// session of a model.
type session struct {
	who string
	id  int
}

// model is a hall as the chapter tells it: a desk, and a list of sessions, each with one transaction.
type model struct {
	*desk.Desk
	open []session
}

func newModel(t *testing.T, room int) *model {
	t.Helper()
	d, err := desk.New(room)
	if err != nil {
		t.Fatal(err)
	}
	return &model{Desk: d}
}

// at gives the place of a session, below 0 if it is not open.
func (m *model) at(who string) int {
	return slices.IndexFunc(m.open, func(s session) bool { return s.who == who })
}

// take gives the id of a session, and has it open no more.
func (m *model) take(who string) (id int, ok bool) {
	at := m.at(who)
	if at < 0 {
		return 0, false
	}
	id = m.open[at].id
	m.open = slices.Delete(m.open, at, at+1)
	return id, true
}

func (m *model) enter(who string) error {
	switch {
	case strings.Trim(who, "abcdefghijklmnopqrstuvwxyz") != "" || len(who) < 1 || len(who) > 8:
		return api.ErrSyntax
	case m.at(who) >= 0:
		return api.ErrClash
	}
	id, err := m.Begin()
	if err == nil {
		m.open = append(m.open, session{who, id})
	}
	return err
}

func (m *model) ask(who string, c api.Call) (api.Answer, error) {
	if at := m.at(who); at >= 0 {
		return plot.Do(m.Desk, m.open[at].id, c)
	}
	return nothing, api.ErrNone
}

func (m *model) close(who string) (int, error) {
	if id, ok := m.take(who); ok {
		return m.Commit(id)
	}
	return 0, api.ErrNone
}

func (m *model) quit(who string) error {
	if id, ok := m.take(who); ok {
		return m.Abort(id)
	}
	return api.ErrNone
}

func (m *model) once(c api.Call) (api.Answer, int, error) {
	id, err := m.Begin()
	if err != nil {
		return nothing, 0, err
	}
	answer, err := plot.Do(m.Desk, id, c)
	if err != nil {
		m.Abort(id)
		return nothing, 0, err
	}
	n, err := m.Commit(id)
	if err != nil {
		return nothing, 0, err
	}
	return answer, n, nil
}

func (m *model) crash(keep int) {
	m.Crash(keep)
	m.open = nil
}

func (m *model) nets() []string {
	var l []string
	for _, p := range m.All() {
		if strings.HasPrefix(p.Key, "n/") {
			l = append(l, p.Key[2:])
		}
	}
	slices.Sort(l)
	return l
}

// act is a call on a hall and on its model, that tells both answers as texts.
type act func(h *hall.Hall, m *model) (got, want string)

func say(err error, values ...any) string { return fmt.Sprint(append(values, " ", plain.Told(err))...) }

func opening(who string) act {
	return func(h *hall.Hall, m *model) (string, string) {
		return say(h.Open(who), "open"), say(m.enter(who), "open")
	}
}

func asking(who string, c api.Call) act {
	return func(h *hall.Hall, m *model) (string, string) {
		got, err := h.Ask(who, c)
		want, told := m.ask(who, c)
		return say(err, got), say(told, want)
	}
}

func closing(who string) act {
	return func(h *hall.Hall, m *model) (string, string) {
		got, err := h.Close(who)
		want, told := m.close(who)
		return say(err, got), say(told, want)
	}
}

func quitting(who string) act {
	return func(h *hall.Hall, m *model) (string, string) {
		return say(h.Quit(who), "quit"), say(m.quit(who), "quit")
	}
}

func once(c api.Call) act {
	return func(h *hall.Hall, m *model) (string, string) {
		got, n, err := h.Once(c)
		want, number, told := m.once(c)
		return say(err, got, n), say(told, want, number)
	}
}

func flushing(h *hall.Hall, m *model) (string, string) {
	return say(h.Flush(), "flush"), say(m.Flush(), "flush")
}

func failing(n int) act {
	return func(h *hall.Hall, m *model) (string, string) { h.Fail(n); m.Fail(n); return "", "" }
}

func crashing(keep int) act {
	return func(h *hall.Hall, m *model) (string, string) { h.Crash(keep); m.crash(keep); return "", "" }
}

// do has an act done by both, and looks at all that is told behind it. It gives what was told.
func do(t *testing.T, h *hall.Hall, m *model, a act) string {
	t.Helper()
	got, want := a(h, m)
	if got != want {
		t.Errorf("answers %q, want %q", got, want)
	}
	wantCount(t, h, len(m.open))
	wantSafe(t, h, m.Safe())
	wantNets(t, h, m.nets()...)
	if got := h.All(); !slices.Equal(got, m.All()) {
		t.Errorf("All: %v, want %v", got, m.All())
	}
	return want
}

// TestH1SmallWorld has each row of four acts behind two sessions that are open, and have changed something.
func TestH1SmallWorld(t *testing.T) {
	acts := []act{
		opening("a"), opening("c"), asking("a", net("x")), asking("b", net("z")), closing("a"), closing("b"), closing("c"),
		quitting("a"), quitting("b"), once(net("x")), once(list("x")), flushing, failing(0), crashing(0), crashing(netBytes),
	}
	n := len(acts)
	for row := range n * n * n * n {
		picks := []int{row % n, row / n % n, row / n / n % n, row / n / n / n}
		for _, room := range []int{2*netBytes - 1, 1000} {
			h, m := fresh(t, room), newModel(t, room)
			for _, a := range []act{opening("a"), opening("b"), asking("a", net("y")), asking("b", net("x"))} {
				do(t, h, m, a)
			}
			for _, pick := range picks {
				do(t, h, m, acts[pick])
			}
			if t.Failed() {
				t.Fatalf("room %d, %v", room, picks)
			}
		}
	}
}

func pick[E any](r *rand.Rand, l []E) E { return l[r.Intn(len(l))] }

// someCall, mostly with nothing wrong, in a world so small that calls often meet.
func someCall(r *rand.Rand) api.Call {
	if r.Intn(15) == 0 {
		return api.Call{What: r.Intn(12) - 1, Name: pick(r, wrongNames), Addr: r.Intn(9) - 4}
	}
	n := 26 + r.Intn(7)
	return api.Call{
		What:   pick(r, []int{1, 2, 2, 2, 3, 4, 5, 6, 6, 7, 7, 7, 8, 9}),
		Name:   pick(r, []string{"x", "x", "x", "xa", "y"}),
		Prefix: api.Prefix{Addr: r.Intn(64) >> (32 - n) << (32 - n), Len: n},
		Len:    n + r.Intn(5) - 1,
		Addr:   r.Intn(70),
		Owner:  pick(r, []string{"joe", "sue", "kim", "tom"}),
	}
}

// someAct mostly is of one of those that are open.
func someAct(r *rand.Rand, m *model) act {
	who := pick(r, append(eight, "c", "d", "e", "", "A", "toolonger"))
	if len(m.open) > 0 && r.Intn(6) > 0 {
		who = pick(r, m.open).who
	}
	switch r.Intn(24) {
	case 0, 1, 2, 3, 4:
		return opening(pick(r, append(eight, who)))
	case 5, 6, 7, 8, 9, 10, 11, 12:
		return asking(who, someCall(r))
	case 13, 14, 15:
		return closing(who)
	case 16:
		return quitting(who)
	case 17, 18, 19:
		return once(someCall(r))
	case 20, 21:
		return flushing
	case 22:
		return opening(who)
	}
	return pick(r, []act{failing(r.Intn(30) - 1), crashing(r.Intn(90) - 3)})
}

// TestH1Model holds a hall to the model through many calls of all kinds.
func TestH1Model(t *testing.T) {
	seen := map[string]int{}
	for seed := range int64(300) {
		r := rand.New(rand.NewSource(seed))
		room := 20 + r.Intn(1500)
		h, m := fresh(t, room), newModel(t, room)
		for i := range 400 {
			told := do(t, h, m, someAct(r, m))
			seen[told[strings.LastIndex(told, " ")+1:]]++
			if t.Failed() {
				t.Fatalf("seed %d, call %d", seed, i)
			}
		}
	}
	for e := api.OK; e <= api.ErrDown; e++ {
		// Of all prefixes of the small world none is out of shape.
		if e != api.ErrShape && seen[e.Error()] < 20 {
			t.Errorf("%v was met %d times", e, seen[e.Error()])
		}
	}
}

// TestH1SameAgain has the same calls on two halls: what they answer hangs on nothing else.
func TestH1SameAgain(t *testing.T) {
	for seed := range int64(50) {
		var told [2][]string
		for i := range told {
			r := rand.New(rand.NewSource(seed))
			h, m := fresh(t, 1500), newModel(t, 1500)
			for range 200 {
				got, _ := someAct(r, m)(h, m)
				told[i] = append(told[i], got+fmt.Sprint(h.Nets(), h.All(), h.Count(), h.Safe()))
			}
		}
		if !slices.Equal(told[0], told[1]) {
			t.Fatalf("seed %d: the same calls were answered otherwise", seed)
		}
	}
}
