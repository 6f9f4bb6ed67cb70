package run_test

import (
	"strings"
	"testing"

	"burgage/run"
)

// ground is a text behind which the net x has prefixes and an address, and the session a is open.
const ground = "open z\nz net x o\nz add x 10.0.0.0/24 p\nz add x 10.0.0.0/26 q\nz place x 10.0.0.1 r\nclose z\nopen a\n"

func TestZ1Sessions(t *testing.T) {
	wantTalk(t, []exchange{
		{"quit a", "ErrNone"},
		{"close a", "ErrNone"},
		{"open a", "ok"},
		{"open a", "ErrClash"},
		{"open b", "ok"},
		{"open abcdefgh", "ok"},
		{"open abcdefghi", "ErrSyntax"},
		{"open A", "ErrSyntax"},
		{"open a1", "ErrSyntax"},
		{"close a", "0"},
		{"close a", "ErrNone"},
		{"quit a", "ErrNone"},
		{"quit b", "ok"},
		{"quit b", "ErrNone"},
		{"close b", "ErrNone"},
		{"b list x", "ErrNone"},
		{"open a", "ok"},
		{"a net x o", "ok"},
		{"quit a", "ok"},
		{"nets", "-"},
		{"open a", "ok"},
		{"a net x o", "ok"},
		{"nets", "-"},
		{"close a", "1"},
		{"nets", "x"},
		{"open a", "ok"},
		{"a net w o", "ok"},
		{"close a", "2"},
		{"open a", "ok"},
		{"close a", "2"},
		{"nets", "w x"},
		{"safe", "0"},
	})
}

func TestZ1ManyAtOnce(t *testing.T) {
	wantTalk(t, []exchange{
		{"open a", "ok"},
		{"open b", "ok"},
		{"a net x o", "ok"},
		{"b net x p", "ok"},
		{"a net y o", "ok"},
		{"close b", "1"},
		{"close a", "ErrClash"},
		{"close a", "ErrNone"},
		{"nets", "x"},
		{"open a", "ok"},
		{"open b", "ok"},
		{"a add x 0.0.0.0/30 o", "ok"},
		{"b list x", "-"},
		{"a host x 0.0.0.0/30 o", "0.0.0.1"},
		{"close a", "2"},
		{"b host x 0.0.0.0/30 o", "ErrNone"},
		{"close b", "ErrClash"},
	})
}

func TestZ1Calls(t *testing.T) {
	for _, c := range []exchange{
		{"a net y o", "ok"},
		{"a net x o", "ErrClash"},
		{"a net Y o", "ErrSyntax"},
		{"a net y O", "ErrSyntax"},
		{"a net abcdefgh abcdefgh", "ok"},
		{"a net abcdefghi o", "ErrSyntax"},
		{"a add x 10.0.0.64/26 o", "ok"},
		{"a add x 10.0.0.0/24 o", "ErrClash"},
		{"a add x 0.0.0.0/0 o", "ok"},
		{"a add x 255.255.255.255/32 o", "ok"},
		{"a add y 10.0.0.64/26 o", "ErrNone"},
		{"a add x 10.0.0.64/26 O", "ErrSyntax"},
		{"a take x 10.0.0.0/26", "ok"},
		{"a take x 10.0.0.0/24", "ErrState"},
		{"a take x 10.0.0.0/25", "ErrNone"},
		{"a take y 10.0.0.0/26", "ErrNone"},
		{"a place x 10.0.0.2 o", "ok"},
		{"a place x 10.0.0.1 o", "ErrClash"},
		{"a place x 10.0.1.0 o", "ErrState"},
		{"a place y 10.0.0.2 o", "ErrNone"},
		{"a place x 10.0.0.2 o2", "ErrSyntax"},
		{"a leave x 10.0.0.1", "ok"},
		{"a leave x 10.0.0.2", "ErrNone"},
		{"a leave x 255.255.255.255", "ErrNone"},
		{"a next x 10.0.0.0/24 26 o", "10.0.0.64/26"},
		{"a next x 10.0.0.0/24 25 o", "10.0.0.128/25"},
		{"a next x 10.0.0.0/24 32 o", "10.0.0.64/32"},
		{"a next x 10.0.0.0/26 27 o", "10.0.0.0/27"},
		{"a next x 10.0.0.0/26 26 o", "ErrClash"},
		{"a next x 10.0.0.0/24 24 o", "ErrNone"},
		{"a next x 10.0.0.0/25 26 o", "ErrNone"},
		{"a next x 10.0.0.0/24 33 o", "ErrRange"},
		{"a next x 10.0.0.0/24 23 o", "ErrRange"},
		{"a next x 10.0.0.0/24 -1 o", "ErrRange"},
		{"a next x 10.0.0.0/24 999999999 o", "ErrRange"},
		{"a next x 10.0.0.0/24 -999999999 o", "ErrRange"},
		{"a next x 10.0.0.0/24 26 O", "ErrSyntax"},
		{"a host x 10.0.0.0/24 o", "10.0.0.2"},
		{"a host x 10.0.0.0/25 o", "ErrNone"},
		{"a host x 10.0.0.0/24 o/", "ErrSyntax"},
		{"a list x", "10.0.0.0/24 10.0.0.0/26"},
		{"a list y", "ErrNone"},
		{"a list X", "ErrSyntax"},
		{"a who x 10.0.0.1", "r"},
		{"a who x 10.0.0.0", "q"},
		{"a who x 10.0.0.63", "q"},
		{"a who x 10.0.0.64", "p"},
		{"a who x 10.0.0.255", "p"},
		{"a who x 10.0.1.0", "ErrNone"},
		{"a who y 10.0.0.1", "ErrNone"},
		{"b who x 10.0.0.1", "ErrNone"},
		{"z who x 10.0.0.1", "ErrNone"},
		{"A who x 10.0.0.1", "ErrNone"},
	} {
		wantLast(t, ground, c.line, c.answer)
	}
}

// TestZ1Done has what is answered ok done: each of it is seen behind it.
func TestZ1Done(t *testing.T) {
	wantTalk(t, []exchange{
		{"open a", "ok"},
		{"a net x o", "ok"},
		{"a list x", "-"},
		{"a add x 10.0.0.0/24 p", "ok"},
		{"a add x 9.0.0.0/24 p", "ok"},
		{"a list x", "9.0.0.0/24 10.0.0.0/24"},
		{"a take x 9.0.0.0/24", "ok"},
		{"a list x", "10.0.0.0/24"},
		{"a who x 10.0.0.9", "p"},
		{"a place x 10.0.0.9 q", "ok"},
		{"a who x 10.0.0.9", "q"},
		{"a leave x 10.0.0.9", "ok"},
		{"a who x 10.0.0.9", "p"},
		{"a next x 10.0.0.0/24 32 s", "10.0.0.0/32"},
		{"a next x 10.0.0.0/24 28 t", "10.0.0.16/28"},
		{"a who x 10.0.0.0", "s"},
		{"a who x 10.0.0.16", "t"},
		{"a host x 10.0.0.0/24 u", "10.0.0.1"},
		{"a host x 10.0.0.0/24 v", "10.0.0.2"},
		{"a host x 10.0.0.16/28 w", "10.0.0.17"},
		{"a who x 10.0.0.1", "u"},
		{"a who x 10.0.0.2", "v"},
		{"a who x 10.0.0.17", "w"},
		{"a list x", "10.0.0.0/24 10.0.0.0/32 10.0.0.16/28"},
		{"close a", "1"},
	})
}

// TestZ1Power has the numbers of crash and fail go where they belong, below 0 too.
func TestZ1Power(t *testing.T) {
	wantTalk(t, []exchange{
		{"safe", "0"},
		{"flush", "ok"},
		{"open a", "ok"}, {"a net x o", "ok"}, {"close a", "1"},
		{"safe", "0"},
		{"flush", "ok"},
		{"safe", "1"},
		{"open a", "ok"}, {"a net y o", "ok"}, {"close a", "2"},
		{"open a", "ok"}, {"a net z o", "ok"}, {"close a", "3"},
		{"nets", "x y z"},
		{"open a", "ok"},
		{"crash 9", "ok"},
		{"a list x", "ErrNone"},
		{"nets", "x y"},
		{"safe", "2"},
		{"open a", "ok"}, {"a net z o", "ok"}, {"close a", "3"},
		{"crash 8", "ok"},
		{"nets", "x y"},
		{"open a", "ok"}, {"a net z o", "ok"}, {"close a", "3"},
		{"crash -1", "ok"},
		{"nets", "x y"},
		{"open a", "ok"}, {"a net z o", "ok"}, {"close a", "3"},
		{"crash 999999999", "ok"},
		{"nets", "x y z"},
		{"safe", "3"},
		{"fail 1", "ok"},
		{"flush", "ok"},
		{"flush", "ErrDown"},
		{"flush", "ErrDown"},
		{"open a", "ErrDown"},
		{"fail -1", "ok"},
		{"nets", "x y z"},
		{"crash 0", "ok"},
		{"fail 0", "ok"},
		{"fail -1", "ok"},
		{"flush", "ok"},
		{"open a", "ok"}, {"a net w o", "ok"},
		{"fail 0", "ok"},
		{"close a", "ErrDown"},
		{"nets", "x y z"},
		{"crash 999999999", "ok"},
		{"nets", "x y z"},
		{"safe", "3"},
	})
}

// TestZ1Full tells what is more than may be: of sessions, of changes, and of what is asked for.
func TestZ1Full(t *testing.T) {
	var talk []exchange
	for _, who := range strings.Split("a b c d e f g h", " ") {
		talk = append(talk, exchange{"open " + who, "ok"})
	}
	talk = append(talk, exchange{"open i", "ErrFull"}, exchange{"open a", "ErrClash"}, exchange{"open I", "ErrSyntax"})
	for _, name := range strings.Split("abcdefghijklmnopqrst", "") {
		talk = append(talk, exchange{"a net " + name + " o", "ok"})
	}
	talk = append(talk, exchange{"a net u o", "ErrFull"})
	// Two reads each, 21 behind it already, and then one alone is left.
	for range 39 {
		talk = append(talk, exchange{"a list a", "-"})
	}
	talk = append(talk, exchange{"a list a", "ErrFull"}, exchange{"a list a", "ErrFull"})
	talk = append(talk, exchange{"close a", "1"}, exchange{"open i", "ok"})
	wantTalk(t, talk)
}

// TestZ1SessionsNamedAsRows has sessions, nets and owners bear the words of the rows.
func TestZ1SessionsNamedAsRows(t *testing.T) {
	for _, w := range strings.Split("open quit close net add take place leave next host list who flush crash fail safe nets ok bad", " ") {
		wantTalk(t, []exchange{
			{"open " + w, "ok"},
			{w + " net " + w + " " + w, "ok"},
			{w + " list " + w, "-"},
			{w + " add " + w + " 0.0.0.0/24 " + w, "ok"},
			{w + " next " + w + " 0.0.0.0/24 30 " + w, "0.0.0.0/30"},
			{w + " host " + w + " 0.0.0.0/30 " + w, "0.0.0.1"},
			{w + " place " + w + " 0.0.0.2 " + w, "ok"},
			{w + " who " + w + " 0.0.0.1", w},
			{w + " leave " + w + " 0.0.0.1", "ok"},
			{w + " leave " + w + " 0.0.0.2", "ok"},
			{w + " take " + w + " 0.0.0.0/30", "ok"},
			{w + " list " + w, "0.0.0.0/24"},
			{"close " + w, "1"},
			{"nets", w},
			{"open " + w, "ok"},
			{"quit " + w, "ok"},
		})
	}
}

// TestZ1Names has the prefixes and the names rise, with one blank between.
func TestZ1Names(t *testing.T) {
	wantTalk(t, []exchange{
		{"nets", "-"},
		{"open a", "ok"},
		{"a net b o", "ok"}, {"a net ba o", "ok"}, {"a net abcdefgh o", "ok"}, {"a net a o", "ok"}, {"a net z o", "ok"},
		{"a list z", "-"},
		{"a add z 10.0.0.0/8 o", "ok"}, {"a add z 9.0.0.0/8 o", "ok"}, {"a add z 10.0.0.0/7 o", "ok"},
		{"a add z 255.255.255.255/32 o", "ok"}, {"a add z 0.0.0.0/0 o", "ok"},
		{"a list z", "0.0.0.0/0 9.0.0.0/8 10.0.0.0/7 10.0.0.0/8 255.255.255.255/32"},
		{"nets", "-"},
		{"close a", "1"},
		{"nets", "a abcdefgh b ba z"},
	})
}

// TestZ1AsManyWordsAsTheRow has each row with words less, or more, an empty one too, and with bytes that no row has.
func TestZ1AsManyWordsAsTheRow(t *testing.T) {
	for _, line := range []string{
		"open b", "quit a", "close a", "a net y o", "a add x 10.0.0.64/26 o", "a take x 10.0.0.0/26", "a place x 10.0.0.2 o",
		"a leave x 10.0.0.1", "a next x 10.0.0.0/24 26 o", "a host x 10.0.0.0/24 o", "a list x", "a who x 10.0.0.1",
		"flush", "crash 0", "fail 0", "safe", "nets",
	} {
		words := strings.Split(line, " ")
		var wrong []string
		for _, more := range []string{" o", " 1", " ", "  ", " x y", " o o o o"} {
			wrong = append(wrong, line+more)
		}
		for n := range words {
			wrong = append(wrong, strings.Join(words[:n], " "))
		}
		wrong = append(wrong, strings.ToUpper(line), line+"\t", line+"\r", "\t"+line, line+"\x00")
		for _, w := range wrong {
			got := strings.TrimPrefix(run.Run(ground+w+"\n"), run.Run(ground))
			if got != modelAnswer(ground, w)+"\n" {
				t.Errorf("line %q: got %q, want %q", w, got, modelAnswer(ground, w))
			}
		}
		wantLast(t, ground, line+" ", "bad")
		if len(words) < 3 {
			wantLast(t, ground, " "+line, "bad")
		}
	}
	for _, line := range []string{
		"flush a", "safe 0", "nets x", "open", "quit", "close", "crash", "fail", "open a b", "crash 0 0", "a", "a b", "a fly", "a fly x",
		"a list", "a list x y", "a net", "a net y", "a net y o o", "a add x 10.0.0.64/26", "a add x 10.0.0.64/26 o o", "a take x",
		"a take x 10.0.0.0/26 o", "a place x 10.0.0.2", "a leave x", "a leave x 10.0.0.1 o", "a next x 10.0.0.0/24 o",
		"a next x 10.0.0.0/24 26", "a next x 10.0.0.0/24 26 o o", "a host x 10.0.0.0/24", "a host x 10.0.0.0/24 26 o", "a who x",
		"a who x 10.0.0.1 o", "Flush", "a List x", "a\tlist\tx", "a list\tx", "flush\t", "fl ush", "a  list x", "a flush", "a safe x",
	} {
		wantLast(t, ground, line, "bad")
	}
}

// TestZ1BadDoesNothing has a line that is bad, or wrong, change nothing.
func TestZ1BadDoesNothing(t *testing.T) {
	wantTalk(t, []exchange{
		{"open a", "ok"},
		{"a net x o o", "bad"},
		{"a list x", "ErrNone"},
		{"a net x o", "ok"},
		{"a add x 10.0.0.0/33 o", "ErrSyntax"},
		{"a add x 10.0.0.1/24 o", "ErrShape"},
		{"a next x 10.0.0.0/24 024 o", "bad"},
		{"a list x", "-"},
		{"quit a b", "bad"},
		{"close a ", "bad"},
		{"crash", "bad"},
		{"crash 00", "bad"},
		{"crash +0", "bad"},
		{"fail 00", "bad"},
		{"fail -0", "bad"},
		{"flush ", "bad"},
		{"safe", "0"},
		{"close a", "1"},
		{"flush", "ok"},
		{"safe", "1"},
	})
}

// TestZ1EmptyWords has a word be empty, where any word will do.
func TestZ1EmptyWords(t *testing.T) {
	for _, c := range []exchange{
		{"open ", "ErrSyntax"},
		{"quit ", "ErrNone"},
		{"close ", "ErrNone"},
		{"crash ", "bad"},
		{"fail ", "bad"},
		{"a net  o", "ErrSyntax"},
		{"a net y ", "ErrSyntax"},
		{"a net  ", "ErrSyntax"},
		{"a add  10.0.0.64/26 o", "ErrSyntax"},
		{"a add x  o", "ErrSyntax"},
		{"a add x 10.0.0.64/26 ", "ErrSyntax"},
		{"a take  10.0.0.0/26", "ErrSyntax"},
		{"a take x ", "ErrSyntax"},
		{"a place x  o", "ErrSyntax"},
		{"a place x 10.0.0.2 ", "ErrSyntax"},
		{"a leave x ", "ErrSyntax"},
		{"a next x 10.0.0.0/24  o", "bad"},
		{"a next x  26 o", "ErrSyntax"},
		{"a next x 10.0.0.0/24 26 ", "ErrSyntax"},
		{"a next x   o", "bad"},
		{"a host x  o", "ErrSyntax"},
		{"a host x 10.0.0.0/24 ", "ErrSyntax"},
		{"a list ", "ErrSyntax"},
		{"a who x ", "ErrSyntax"},
		{"a who  10.0.0.1", "ErrSyntax"},
		{" list x", "ErrNone"},
		{" net y o", "ErrNone"},
		{" add x 10.0.0.1/24 o", "ErrShape"},
		{" flush", "bad"},
		{" ", "bad"},
		{"  ", "bad"},
		{"   ", "bad"},
		{"    ", "bad"},
		{"     ", "bad"},
	} {
		wantLast(t, ground, c.line, c.answer)
	}
}

// TestZ1Numbers has each number written in one way alone.
func TestZ1Numbers(t *testing.T) {
	for _, n := range []string{"0", "1", "9", "10", "-1", "-9", "-10", "100000000", "999999999", "-999999999"} {
		wantLast(t, ground, "crash "+n, "ok")
		wantLast(t, ground, "fail "+n, "ok")
		wantLast(t, ground, "a next x 10.0.0.0/24 "+n+" o", "ErrRange")
	}
	for _, n := range []string{
		"", "-", "--", "--1", "-0", "00", "01", "-01", "+1", "+0", "1-", "1000000000", "-1000000000", "0000000001", "-0000000001",
		"9223372036854775807", "9223372036854775808", "-9223372036854775808", "99999999999999999999999", "0x1", "1_0", "1e1", "1.0",
		"a", "26a", "2\t6", "\x0026", "٢", "２６", "\xff", "26\r", "−1", "1/", "10.0.0.0",
	} {
		wantLast(t, ground, "crash "+n, "bad")
		wantLast(t, ground, "fail "+n, "bad")
		wantLast(t, ground, "a next x 10.0.0.0/24 "+n+" o", "bad")
	}
}

// TestZ1Texts has what is no address and no prefix answered by chapter 1's error, in each row that has one.
func TestZ1Texts(t *testing.T) {
	prefixes := []exchange{
		{"10.0.0.1/24", "ErrShape"}, {"0.0.0.1/0", "ErrShape"}, {"255.255.255.255/31", "ErrShape"}, {"10.0.0.0/6", "ErrShape"},
		{"10.0.0.0/33", "ErrSyntax"}, {"10.0.0.1/33", "ErrSyntax"}, {"10.0.0.0/024", "ErrSyntax"}, {"10.0.0.0/-1", "ErrSyntax"},
		{"10.0.0.0", "ErrSyntax"}, {"10.0.0.0/", "ErrSyntax"}, {"/24", "ErrSyntax"}, {"10.0.0/24", "ErrSyntax"}, {"1/2", "ErrSyntax"},
		{"010.0.0.0/24", "ErrSyntax"}, {"256.0.0.0/24", "ErrSyntax"}, {"10.0.0.0/24/24", "ErrSyntax"}, {"x", "ErrSyntax"}, {"-", "ErrSyntax"},
	}
	for _, p := range prefixes {
		for _, who := range []string{"a", "b", "B", ""} {
			for _, name := range []string{"x", "y", "Y", ""} {
				for _, owner := range []string{"o", "O", ""} {
					wantLast(t, ground, who+" add "+name+" "+p.line+" "+owner, p.answer)
					wantLast(t, ground, who+" next "+name+" "+p.line+" 26 "+owner, p.answer)
					wantLast(t, ground, who+" next "+name+" "+p.line+" 99 "+owner, p.answer)
					wantLast(t, ground, who+" next "+name+" "+p.line+" 026 "+owner, "bad")
					wantLast(t, ground, who+" host "+name+" "+p.line+" "+owner, p.answer)
				}
				wantLast(t, ground, who+" take "+name+" "+p.line, p.answer)
			}
		}
	}
	for _, a := range []string{"10.0.0", "10.0.0.1.1", "10.0.0.1/32", "10.0.0.256", "10.0.0.01", "10.0.0.", ".10.0.0", "10.0.0.-1", "167772161", "x", "-"} {
		for _, who := range []string{"a", "b", "B", ""} {
			for _, name := range []string{"x", "y", "Y", ""} {
				wantLast(t, ground, who+" place "+name+" "+a+" o", "ErrSyntax")
				wantLast(t, ground, who+" place "+name+" "+a+" O", "ErrSyntax")
				wantLast(t, ground, who+" leave "+name+" "+a, "ErrSyntax")
				wantLast(t, ground, who+" who "+name+" "+a, "ErrSyntax")
			}
		}
	}
}

// TestZ1OrderOfErrors has what the chapters below name first told first, once the line is read.
func TestZ1OrderOfErrors(t *testing.T) {
	for _, c := range []exchange{
		{"b add X 10.0.0.0/24 o", "ErrNone"},
		{"b net X O", "ErrNone"},
		{"b list X", "ErrNone"},
		{"b next x 10.0.0.0/24 99 o", "ErrNone"},
		{"a add Y 10.0.0.0/24 o", "ErrSyntax"},
		{"a add x 10.0.0.0/24 O", "ErrSyntax"},
		{"a add y 10.0.0.0/24 o", "ErrNone"},
		{"a next y 10.0.0.0/24 99 o", "ErrNone"},
		{"a next x 10.0.0.0/25 99 o", "ErrNone"},
		{"a next x 10.0.0.0/24 99 O", "ErrSyntax"},
		{"a place x 11.0.0.1 O", "ErrSyntax"},
		{"open A", "ErrSyntax"},
	} {
		wantLast(t, ground, c.line, c.answer)
	}
}
