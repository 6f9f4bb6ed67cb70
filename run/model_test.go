package run_test

import (
	"fmt"
	"math/rand"
	"regexp"
	"strconv"
	"strings"
	"testing"

	"burgage/api"
	"burgage/hall"
	"burgage/plain"
	"burgage/run"
)

// The forms of words. What stands for ADDR and PREFIX is any word here, and is read behind that.
const (
	anyWord = `([^ \n]*)`
	numeral = `(0|-?[1-9][0-9]{0,8})`
)

// form of a row, and what it asks for.
type form struct {
	shape *regexp.Regexp
	do    func(h *hall.Hall, w []string) (string, error)
}

// forms are the chapter's rows, each as one pattern: a model that reads a line whole, where the program reads words.
func forms() []form {
	row := func(shape string, do func(h *hall.Hall, w []string) (string, error)) form {
		shape = strings.NewReplacer("W", anyWord, "N", numeral).Replace(shape)
		return form{regexp.MustCompile(`^(?s:` + shape + `)$`), do}
	}
	call := func(what int) func(h *hall.Hall, w []string) (string, error) {
		return func(h *hall.Hall, w []string) (string, error) { return asked(h, what, w) }
	}
	return []form{
		row(`open W`, func(h *hall.Hall, w []string) (string, error) { return "ok", h.Open(w[1]) }),
		row(`quit W`, func(h *hall.Hall, w []string) (string, error) { return "ok", h.Quit(w[1]) }),
		row(`close W`, func(h *hall.Hall, w []string) (string, error) {
			n, err := h.Close(w[1])
			return fmt.Sprint(n), err
		}),
		row(`flush`, func(h *hall.Hall, w []string) (string, error) { return "ok", h.Flush() }),
		row(`crash N`, func(h *hall.Hall, w []string) (string, error) {
			h.Crash(atoi(w[1]))
			return "ok", nil
		}),
		row(`fail N`, func(h *hall.Hall, w []string) (string, error) {
			h.Fail(atoi(w[1]))
			return "ok", nil
		}),
		row(`safe`, func(h *hall.Hall, w []string) (string, error) { return fmt.Sprint(h.Safe()), nil }),
		row(`nets`, func(h *hall.Hall, w []string) (string, error) { return dashed(h.Nets()), nil }),
		row(`W net W()() W`, call(api.Net)),
		row(`W add W W() W`, call(api.Add)),
		row(`W take W W()()`, call(api.Take)),
		row(`W place W W() W`, call(api.Place)),
		row(`W leave W W()()`, call(api.Leave)),
		row(`W next W W N W`, call(api.NextPrefix)),
		row(`W host W W() W`, call(api.NextAddr)),
		row(`W list W()()()`, call(api.List)),
		row(`W who W W()()`, call(api.Who)),
	}
}

// asked is a call of a session: WHO, NAME, ADDR or PREFIX, N, and OWNER, of which those are empty that a row has not.
func asked(h *hall.Hall, what int, w []string) (string, error) {
	c := api.Call{What: what, Name: w[2], Owner: w[5]}
	if w[4] != "" {
		c.Len = atoi(w[4])
	}
	var err error
	switch what {
	case api.Add, api.Take, api.NextPrefix, api.NextAddr:
		c.Prefix, err = plainPrefix(w[3])
	case api.Place, api.Leave, api.Who:
		c.Addr, err = plainAddr(w[3])
	}
	if err != nil {
		return "", err
	}
	a, err := h.Ask(w[1], c)
	switch what {
	case api.NextPrefix:
		return plainText(a.Prefix.Addr) + "/" + fmt.Sprint(a.Prefix.Len), err
	case api.NextAddr:
		return plainText(a.Addr), err
	case api.Who:
		return a.Owner, err
	case api.List:
		var l []string
		for _, p := range a.List {
			l = append(l, plainText(p.Addr)+"/"+fmt.Sprint(p.Len))
		}
		return dashed(l), err
	}
	return "ok", err
}

func atoi(text string) int {
	n, err := strconv.Atoi(text)
	if err != nil {
		panic(err)
	}
	return n
}

func dashed(l []string) string {
	if l == nil {
		return "-"
	}
	return strings.Join(l, " ")
}

func plainText(a int) string { return fmt.Sprintf("%d.%d.%d.%d", a>>24, a>>16&255, a>>8&255, a&255) }

func plainAddr(text string) (int, error) {
	var a, b, c, d int
	fmt.Sscanf(text, "%d.%d.%d.%d", &a, &b, &c, &d)
	if (a|b|c|d)>>8 != 0 || plainText(a<<24|b<<16|c<<8|d) != text {
		return 0, api.ErrSyntax
	}
	return a<<24 | b<<16 | c<<8 | d, nil
}

func plainPrefix(text string) (api.Prefix, error) {
	head, tail, _ := strings.Cut(text, "/")
	a, err := plainAddr(head)
	bits, wrong := strconv.Atoi(tail)
	switch {
	case err != nil || wrong != nil || fmt.Sprint(bits) != tail || bits < 0 || bits > 32:
		return api.Prefix{}, api.ErrSyntax
	case a%(1<<(32-bits)) != 0:
		return api.Prefix{}, api.ErrShape
	}
	return api.Prefix{Addr: a, Len: bits}, nil
}

// model answers a text that is not too long.
func model(text string) string {
	h, err := hall.New(3000)
	if err != nil {
		panic(err)
	}
	rows := forms()
	answers := ""
	lines := strings.Split(text, "\n")
	if lines[len(lines)-1] == "" {
		lines = lines[:len(lines)-1]
	}
	for _, line := range lines {
		answers += modelLine(h, rows, line) + "\n"
	}
	return answers
}

func modelLine(h *hall.Hall, rows []form, line string) string {
	for _, r := range rows {
		w := r.shape.FindStringSubmatch(line)
		if w == nil {
			continue
		}
		told, err := r.do(h, w)
		if err != nil {
			return plain.Told(err).Error()
		}
		return told
	}
	return "bad"
}

// modelAnswer is the model's to a line behind others.
func modelAnswer(ahead, line string) string {
	return strings.TrimSuffix(strings.TrimPrefix(model(ahead+line+"\n"), model(ahead)), "\n")
}

// pick one.
func pick(r *rand.Rand, words ...string) string { return words[r.Intn(len(words))] }

func anyNumber(r *rand.Rand) string {
	return pick(r, "0", "1", "2", "3", "9", "20", "40", "999999999", "-1", "28", "30", "31", "32")
}

func anyPrefix(r *rand.Rand) string {
	return pick(r, "0.0.0.0/28", "0.0.0.0/28", "0.0.0.0/29", "0.0.0.8/29", "0.0.0.0/30", "0.0.0.4/30", "0.0.0.8/32", "0.0.0.0/31", "0.0.0.1/31", "0.0.0.0/33")
}

func anyAddr(r *rand.Rand) string { return fmt.Sprintf("0.0.0.%d", r.Intn(17)) }

// anyLine of a small world, with few names, so that much of it is taken and much clashes.
func anyLine(r *rand.Rand) string {
	who, name, owner := pick(r, "a", "b", "c"), pick(r, "x", "x", "x", "y"), pick(r, "o", "p", "joe", "O")
	switch r.Intn(22) {
	case 0, 1, 2, 3:
		return "open " + who
	case 4, 5:
		return "close " + who
	case 6:
		return pick(r, "quit "+who, "flush", "safe", "nets")
	case 7:
		return pick(r, "flush", "safe", "nets", "nets")
	case 8:
		return pick(r, "crash ", "fail ") + anyNumber(r)
	case 9, 10, 11:
		return who + " net " + name + " " + owner
	case 12, 13:
		return who + " add " + name + " " + anyPrefix(r) + " " + owner
	case 14:
		return who + " take " + name + " " + anyPrefix(r)
	case 15:
		return who + " place " + name + " " + anyAddr(r) + " " + owner
	case 16:
		return who + " leave " + name + " " + anyAddr(r)
	case 17, 18:
		return who + " next " + name + " " + anyPrefix(r) + " " + anyNumber(r) + " " + owner
	case 19:
		return who + " host " + name + " " + anyPrefix(r) + " " + owner
	case 20:
		return who + " list " + name
	}
	return who + " who " + name + " " + anyAddr(r)
}

// spoil a line by a byte that is gone, doubled, or another one.
func spoil(r *rand.Rand, line string) string {
	at := r.Intn(len(line))
	switch r.Intn(4) {
	case 0:
		return line[:at] + line[at+1:]
	case 1:
		return line[:at] + line[at:at+1] + line[at:]
	case 2:
		return line[:at] + pick(r, " ", "\n", "0", "-", "/", ".", "a", "A", "\x00", "\xff", "\t", "\r") + line[at:]
	}
	return line[:at] + pick(r, " ", "\n", "0", "9", "-", "/", ".", "a", "A", "\x00", "\xff") + line[at+1:]
}

// anyText of some lines, and a few of them spoiled; not always is there a byte 10 at its end.
func anyText(r *rand.Rand, most int) string {
	var text strings.Builder
	for range r.Intn(most) {
		line := anyLine(r)
		if r.Intn(8) == 0 {
			line = spoil(r, line)
		}
		if text.Len()+len(line) >= 2999 {
			break
		}
		text.WriteString(line + "\n")
	}
	if r.Intn(4) == 0 {
		return strings.TrimSuffix(text.String(), "\n")
	}
	return text.String()
}

func TestZ1AsTheModel(t *testing.T) {
	seen := map[string]int{}
	for seed := range 400 {
		text := anyText(rand.New(rand.NewSource(int64(seed))), 240)
		got, want := run.Run(text), model(text)
		if got != want {
			t.Fatalf("seed %d: %s", seed, apart(text, got, want))
		}
		for _, answer := range strings.Split(got, "\n") {
			seen[answer]++
		}
	}
	// The texts are of no use where a kind of answer never comes.
	for _, answer := range []string{
		"ok", "bad", "ErrRange", "ErrShape", "ErrNone", "ErrSyntax", "ErrClash", "ErrState", "ErrDown", "-", "0", "1", "2", "joe", "x", "x y",
		"0.0.0.1", "0.0.0.0/30", "0.0.0.0/28 0.0.0.0/30",
	} {
		if seen[answer] == 0 {
			t.Errorf("no line is answered %q", answer)
		}
	}
}

// TestZ1AnyBytes has texts that are no lines at all answered, a line each.
func TestZ1AnyBytes(t *testing.T) {
	for seed := range 300 {
		r := rand.New(rand.NewSource(int64(seed)))
		b := make([]byte, r.Intn(3001))
		for i := range b {
			b[i] = byte(r.Intn(256))
			if r.Intn(6) == 0 {
				b[i] = pick(r, " ", "\n", "\n")[0]
			}
		}
		text := string(b)
		if got, want := run.Run(text), model(text); got != want {
			t.Fatalf("seed %d: %s", seed, apart(text, got, want))
		}
	}
}

// TestZ2Beginnings has the answers to each number of first lines stand at the beginning of the answers to all.
func TestZ2Beginnings(t *testing.T) {
	for seed := range 100 {
		text := anyText(rand.New(rand.NewSource(int64(seed))), 80)
		lines := strings.SplitAfter(text, "\n")
		answers := strings.SplitAfter(run.Run(text), "\n")
		for n := range lines {
			first := strings.Join(lines[:n], "")
			if got, want := run.Run(first), strings.Join(answers[:n], ""); got != want {
				t.Fatalf("seed %d, %d lines: got %q, want %q", seed, n, got, want)
			}
		}
	}
}

// TestZ2TooLong has first lines answered as they are alone as long as all of it is not too long, and no line of it behind.
func TestZ2TooLong(t *testing.T) {
	text := "open a\na net x o\nclose a\n"
	text += strings.Repeat("nets\n", (3000-len(text))/5)
	text += strings.Repeat("s", 3000-len(text))
	want := run.Run("open a\na net x o\nclose a\nnets\n")
	if got := run.Run(text); !strings.HasPrefix(got, want) || want != "ok\nok\n1\nx\n" {
		t.Errorf("Run of %d bytes: %.40q, and of its first lines %q", len(text), got, want)
	}
	if got := run.Run(text + "\n"); got != "too long\n" {
		t.Errorf("Run of %d bytes: %.40q", len(text)+1, got)
	}
}
