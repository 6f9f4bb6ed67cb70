package run_test

import (
	"fmt"
	"strings"
	"testing"

	"burgage/run"
)

// exchange is a line, and its answer.
type exchange struct{ line, answer string }

// wantTalk asks all lines as one text.
func wantTalk(t *testing.T, talk []exchange) {
	t.Helper()
	var text, want strings.Builder
	for _, e := range talk {
		text.WriteString(e.line + "\n")
		want.WriteString(e.answer + "\n")
	}
	if got := run.Run(text.String()); got != want.String() {
		t.Error(apart(text.String(), got, want.String()))
	}
}

// apart tells the first line whose answer is another one.
func apart(text, got, want string) string {
	lines, g, w := strings.Split(text, "\n"), strings.Split(got, "\n"), strings.Split(want, "\n")
	for i := range min(len(g), len(w), len(lines)) {
		if g[i] != w[i] {
			return fmt.Sprintf("line %q: got %q, want %q, behind %q", lines[i], g[i], w[i], lines[:i])
		}
	}
	return fmt.Sprintf("got %q, want %q of %q", got, want, text)
}

// wantLast asks a line behind others, in each way in which a text can end.
func wantLast(t *testing.T, ahead, line, want string) {
	t.Helper()
	first := run.Run(ahead)
	for _, end := range []string{"", "\n"} {
		if got := run.Run(ahead + line + end); got != first+want+"\n" {
			t.Errorf("line %q: got %q, want %q", line, strings.TrimPrefix(got, first), want+"\n")
		}
	}
}

func TestZ1Example(t *testing.T) {
	wantTalk(t, []exchange{
		{"open a", "ok"},
		{"a net x o", "ok"},
		{"a add x 10.0.0.0/24 o", "ok"},
		{"a next x 10.0.0.0/24 26 p", "10.0.0.0/26"},
		{"a host x 10.0.0.0/24 q", "10.0.0.1"},
		{"a who x 10.0.0.1", "q"},
		{"a list x", "10.0.0.0/24 10.0.0.0/26"},
		{"close a", "1"},
		{"flush", "ok"},
		{"safe", "1"},
		{"nets", "x"},
		{"fly", "bad"},
		{"a add x 1/2 o", "ErrSyntax"},
	})
}

// TestZ1Lines cuts texts at byte 10 alone.
func TestZ1Lines(t *testing.T) {
	for _, c := range []struct{ text, want string }{
		{"", ""},
		{"\n", "bad\n"},
		{"\n\n", "bad\nbad\n"},
		{"\n\n\n", "bad\nbad\nbad\n"},
		{"safe", "0\n"},
		{"safe\n", "0\n"},
		{"safe\n\n", "0\nbad\n"},
		{"\nsafe", "bad\n0\n"},
		{"safe\nnets", "0\n-\n"},
		{"safe\nnets\n", "0\n-\n"},
		{"safe\n\nnets\n", "0\nbad\n-\n"},
		{"safe\r\n", "bad\n"},
		{"safe\r", "bad\n"},
		{"safe\rnets", "bad\n"},
		{"safe\x00", "bad\n"},
		{"safe\v\fnets", "bad\n"},
		{"safe\u2028nets\u0085", "bad\n"},
		{" ", "bad\n"},
		{" \n", "bad\n"},
		{"\n ", "bad\nbad\n"},
		{"\xff\n\xc3\n\xa4", "bad\nbad\nbad\n"},
	} {
		if got := run.Run(c.text); got != c.want {
			t.Errorf("Run of %q: got %q, want %q", c.text, got, c.want)
		}
	}
}

// TestZ1TooLong counts bytes, neither lines nor runes, and looks at nothing else of a text that is too long.
func TestZ1TooLong(t *testing.T) {
	for _, piece := range []string{"\n", "x", "ä", "ok\n", "safe\n", "open a\n", "nets \xff\x00\n", strings.Repeat("y", 2999) + "\n"} {
		long := strings.Repeat(piece, 3002)
		for _, size := range []int{3001, 3002, 4000, 6000} {
			if got := run.Run(long[:min(size, len(long))]); got != "too long\n" {
				t.Errorf("Run of %d bytes of %q: %.30q", size, piece, got)
			}
		}
		for _, size := range []int{2999, 3000} {
			text := long[:size]
			want := strings.Count(text, "\n")
			if !strings.HasSuffix(text, "\n") {
				want++
			}
			got := run.Run(text)
			if strings.Contains(got, "too long") || strings.Count(got, "\n") != want {
				t.Errorf("Run of %d bytes of %q: %.30q, want %d lines", size, piece, got, want)
			}
		}
	}
	if got := run.Run(strings.Repeat("safe\n", 600)); got != strings.Repeat("0\n", 600) {
		t.Errorf("Run of 3000 bytes: %q", got)
	}
	if got := run.Run(strings.Repeat("safe\n", 599) + "open a"); got != "too long\n" {
		t.Errorf("Run of 3001 bytes: %q", got)
	}
}

// TestZ1Fresh has nothing kept from text to text.
func TestZ1Fresh(t *testing.T) {
	text := "open a\na net x o\na list x\nclose a\nflush\nsafe\nnets\nfail 0\nflush\n"
	for range 3 {
		if got := run.Run(text); got != "ok\nok\n-\n1\nok\n1\nx\nok\nErrDown\n" {
			t.Errorf("Run: %q", got)
		}
		if got := run.Run("nets\nsafe\nquit a\nflush"); got != "-\n0\nErrNone\nok\n" {
			t.Errorf("Run behind another: %q", got)
		}
	}
}

// TestZ1Room has the texts that commit most for their length find room for all of it.
func TestZ1Room(t *testing.T) {
	var text, want strings.Builder
	say := func(line, answer string) {
		text.WriteString(line + "\n")
		want.WriteString(answer + "\n")
	}
	say("open a", "ok")
	say("a net abcdefgh abcdefgh", "ok")
	say("close a", "1")
	bits := 0
	for number := 2; number < 6; number++ {
		say("open a", "ok")
		for range 20 {
			say("a add abcdefgh "+pointed(bits)+" abcdefgh", "ok")
			bits++
		}
		say("close a", string(rune('0'+number)))
	}
	say("flush", "ok")
	say("safe", "5")
	if size := text.Len(); size < 2800 || size > 3000 {
		t.Fatalf("a text of %d bytes", size)
	}
	if got := run.Run(text.String()); got != want.String() {
		t.Error(apart(text.String(), got, want.String()))
	}
}

// pointed gives one short prefix for each number below 81.
func pointed(i int) string {
	return string(rune('1'+i/9)) + ".0.0." + string(rune('1'+i%9)) + "/32"
}
