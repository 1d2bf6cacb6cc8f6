package tests

import (
	"fmt"
	"maps"
	"slices"
	"strings"
	"testing"

	"loop.example/g00208/impl"
)

// place is a transaction that committed: its acts, and what each of them was told.
type place struct {
	acts []impl.CertAct
	told []impl.CertReply
}

// placesOf are those that commit, in the order of their Places; an act that was told of none of them is left out.
func placesOf(t *testing.T, acts []impl.CertAct, replies []impl.CertReply) []place {
	t.Helper()
	var open [6]*place
	var places []place
	for i, a := range acts {
		r := replies[i]
		if r.Code == impl.ErrForm || r.Code == impl.ErrRange || r.Code == impl.ErrTwice || r.Code == impl.ErrClosed {
			continue
		}
		if a.Kind == impl.CeBegin {
			open[a.Tx] = &place{}
		}
		open[a.Tx].acts = append(open[a.Tx].acts, a)
		open[a.Tx].told = append(open[a.Tx].told, r)
		if a.Kind == impl.CeCommit && r.Code == impl.OK {
			places = append(places, *open[a.Tx])
			if r.Place != len(places) {
				t.Fatalf("act %d: place %d, want %d", i, r.Place, len(places))
			}
		}
	}
	return places
}

// oneByOne is what a place's acts are told if nobody else is there.
func oneByOne(state map[string]string, p place) []impl.CertReply {
	own := map[string]string{}
	var told []impl.CertReply
	for i, a := range p.acts {
		switch was := p.told[i]; {
		case was.Code == impl.ErrBad || was.Code == impl.ErrFull || a.Kind == impl.CeBegin || a.Kind == impl.CeCommit:
			told = append(told, was)
		case a.Kind == impl.CeWrite:
			own[a.Key] = a.Value
			told = append(told, impl.CertReply{})
		default:
			told = append(told, lookedAt(state, own, a))
		}
	}
	maps.Copy(state, own)
	return told
}

// checkPlaces asks whether those that commit were told what they would be told one by one, by the words and by the certifier.
func checkPlaces(t *testing.T, acts []impl.CertAct) int {
	t.Helper()
	replies, left, c := impl.CertRun(acts)
	code(t, "CertRun", c, impl.OK)
	places := placesOf(t, acts, replies)
	state := map[string]string{}
	var serial []impl.CertAct
	var told []impl.CertReply
	for at, p := range places {
		if want := oneByOne(state, p); !slices.EqualFunc(p.told, want, sameCert) {
			t.Fatalf("place %d, %v was told %v, one by one %v", at+1, p.acts, p.told, want)
		}
		serial, told = append(serial, p.acts...), append(told, p.told...)
	}
	if !slices.Equal(left, entriesOf(state)) {
		t.Fatalf("%v is committed, one by one %v", left, state)
	}
	again, leftAgain, c := impl.CertRun(serial)
	if c != impl.OK || !slices.EqualFunc(again, told, sameCert) || !slices.Equal(leftAgain, left) {
		t.Fatalf("%v one by one: %v %v, want %v %v", serial, again, leftAgain, told, left)
	}
	return len(places)
}

func TestCertifiedAsIfOneByOne(t *testing.T) {
	d := &dice{state: 12}
	commits := 0
	for range 600 {
		commits += checkPlaces(t, rolledCert(d, d.below(impl.MaxScript+1)))
	}
	if commits < 2000 {
		t.Error("few commits:", commits)
	}
}

// emptyLooks says that one looked, and found nothing anywhere.
func emptyLooks(g *guest) bool {
	return len(g.glances) > 0 && !slices.ContainsFunc(g.glances, func(l glance) bool { return l.what != "none" && l.what != "-" })
}

func TestCertifiedRunsGoAsTheWitnessTells(t *testing.T) {
	d := &dice{state: 17}
	codes := map[int]int{}
	phantoms := 0
	for round := range 600 {
		acts := rolledCert(d, d.below(impl.MaxScript+1))
		replies, left, c := impl.CertRun(acts)
		code(t, "CertRun", c, impl.OK)
		w := newWitness()
		for i, a := range acts {
			var g *guest
			if a.Tx >= 0 && a.Tx < 6 {
				g = w.open[a.Tx]
			}
			want := w.act(a)
			codes[want.Code]++
			if want.Code == impl.ErrConflict && emptyLooks(g) {
				phantoms++
			}
			if !sameCert(replies[i], want) {
				t.Fatalf("run %d, act %d %v: %v, want %v", round, i, a, replies[i], want)
			}
		}
		if !slices.Equal(left, entriesOf(w.left[len(w.wrote)])) {
			t.Fatalf("run %d: %v is committed, want %v", round, left, w.left[len(w.wrote)])
		}
	}
	for _, want := range []int{impl.OK, impl.ErrForm, impl.ErrRange, impl.ErrNone, impl.ErrFull, impl.ErrBad, impl.ErrTwice, impl.ErrClosed, impl.ErrConflict} {
		if codes[want] < 50 {
			t.Error("the runs have few replies of code", impl.CodeWord(want), codes[want])
		}
	}
	if phantoms < 50 {
		t.Error("few conflicts where nothing was found:", phantoms)
	}
}

// One looks, another one writes to a key since: just the keys that were looked at are in the way, were they there or not.
func TestLooksAndWritesSince(t *testing.T) {
	keys := []string{"a", "b", "bb", "c", "d", "d\x00", "e", "\xff"}
	for look, hit := range map[string]string{
		"read 0 b": "b", "read 0 c": "c", "read 0 d": "d", "read 0 e": "e", "read 0 a": "a", "read 0 \xff": "\xff", "read 0 d\x00": "d\x00", "range 0 - -": strings.Join(keys, " "), "range 0 c d": "c", "range 0 c d\x00": "c d", "range 0 bb -": "bb c d d\x00 e \xff",
		"range 0 - bb": "a b", "range 0 d c": "", "range 0 c c": "", "range 0 e -": "e \xff", "range 0 ba bbb": "bb", "range 0 f z": "", "range 0 \xff -": "\xff", "range 0 - a": "", "write 0 c own": "", "commit 5": "", "read 0 -": "",
	} {
		for _, key := range keys {
			for _, own := range []string{"commit 5", "write 0 " + key + " own", "write 0 z own"} {
				want := "#3"
				if slices.Contains(strings.Fields(hit), key) {
					want = "conflict"
				}
				acts := []impl.CertAct{ce("begin 2"), ce("write 2 b 1"), ce("write 2 d 2"), ce("commit 2"), ce("begin 0"), ce(own), ce(look), ce("begin 1"), ce("write 1 " + key + " new"), ce("commit 1"), ce("commit 0")}
				replies, left, c := impl.CertRun(acts)
				code(t, look, c, impl.OK)
				if got := showCert(replies[10]); got != want || showCert(replies[9]) != "#2" {
					t.Errorf("%s, %s, then %q is written: %s, want %s", own, look, key, got, want)
				}
				if mine := strings.Contains(showEntries(left), "own"); want == "conflict" && mine {
					t.Errorf("%s, %s, then %q is written: %v is committed", own, look, key, left)
				}
				checkPlaces(t, acts)
			}
		}
	}
}

func TestConflictsOfLooks(t *testing.T) {
	// What was changed ahead of the look is not in the way; what was changed behind the first of two looks is.
	certify(t, "begin 0: -", "begin 1: -", "write 1 a 1: -", "commit 1: #1", "read 0 a: '1'", "commit 0: #2", "a=1")
	certify(t, "begin 0: -", "read 0 a: none", "begin 1: -", "write 1 a 1: -", "commit 1: #1", "read 0 a: '1'", "commit 0: conflict", "a=1")
	certify(t, "begin 0: -", "read 0 b: none", "begin 1: -", "write 1 a 1: -", "commit 1: #1", "read 0 a: '1'", "write 0 c 1: -", "commit 0: #2", "a=1 c=1")
	// A change that is not committed, or fails, is in nobody's way.
	certify(t, "begin 0: -", "begin 1: -", "read 0 a: none", "write 1 a 1: -", "commit 0: #1", "commit 1: #2", "a=1")
	certify(t, "begin 0: -", "begin 1: -", "read 0 a: none", "write 1 a 1: -", "abort 1: -", "commit 0: #1", "-")
	certify(t, "begin 0: -", "begin 1: -", "begin 2: -", "range 1 - -: -", "write 2 b 2: -", "commit 2: #1", "read 0 a: none", "write 1 a 1: -", "commit 1: conflict", "commit 0: #2", "b=2")
	// The same value that is written again is a change too, whoever looks.
	certify(t, "begin 1: -", "write 1 a 1: -", "commit 1: #1", "begin 0: -", "read 0 a: '1'", "begin 1: -", "write 1 a 1: -", "commit 1: #2", "commit 0: conflict", "a=1")
	certify(t, "begin 1: -", "write 1 a 1: -", "commit 1: #1", "begin 0: -", "range 0 - b: a=1", "begin 1: -", "write 1 a 1: -", "commit 1: #2", "commit 0: conflict", "a=1")
	// Nothing changed: a commit without writes changes nothing, though its time counts.
	certify(t, "begin 1: -", "write 1 a 1: -", "commit 1: #1", "begin 0: -", "read 0 a: '1'", "range 0 - -: a=1", "begin 1: -", "read 1 a: '1'", "commit 1: #2", "begin 1: -", "commit 1: #3", "write 0 a 2: -", "commit 0: #4", "a=2")
	// Who only writes is in conflict with nobody; the last that commits counts.
	certify(t, "begin 0: -", "begin 1: -", "write 0 a 0: -", "write 1 a 1: -", "commit 1: #1", "commit 0: #2", "a=0")
	// Its own writes that are looked at are looked at.
	certify(t, "begin 0: -", "write 0 a 0: -", "read 0 a: '0'", "begin 1: -", "write 1 a 1: -", "commit 1: #1", "read 0 a: '0'", "commit 0: conflict", "a=1")
	certify(t, "begin 0: -", "write 0 a 0: -", "read 0 a: '0'", "range 0 - -: a=0", "commit 0: #1", "begin 0: -", "read 0 a: '0'", "write 0 a 1: -", "read 0 a: '1'", "commit 0: #2", "a=1")
	// A conflict closes it; what it looked at and wrote is forgotten, as with an abort and a commit.
	certify(t, "begin 0: -", "read 0 a: none", "write 0 b 0: -", "begin 1: -", "write 1 a 1: -", "commit 1: #1", "commit 0: conflict", "commit 0: closed", "begin 0: -", "read 0 b: none", "commit 0: #2", "a=1")
	certify(t, "begin 0: -", "read 0 a: none", "write 0 b 0: -", "begin 1: -", "write 1 a 1: -", "commit 1: #1", "abort 0: -", "begin 0: -", "read 0 b: none", "commit 0: #2", "a=1")
	certify(t, "begin 0: -", "read 0 a: none", "write 0 b 0: -", "commit 0: #1", "begin 0: -", "begin 1: -", "write 1 a 1: -", "write 1 b 1: -", "commit 1: #2", "commit 0: #3", "a=1 b=1")
}

// An act that is not right looks at nothing.
func TestWrongLooksAreNotNoted(t *testing.T) {
	long := strings.Repeat("k", impl.MaxKey+1)
	for _, a := range []impl.CertAct{{Kind: impl.CeRead}, {Kind: impl.CeRead, Key: long}, {Kind: impl.CeRange, Key: long}, {Kind: impl.CeRange, To: long}, {Kind: 7}, {Kind: impl.CeRange, Tx: 2}, {Kind: impl.CeRange, Tx: -1}, {Kind: impl.CeBegin}} {
		replies, left, c := impl.CertRun([]impl.CertAct{ce("begin 0"), a, ce("begin 1"), ce("write 1 k 1"), ce("write 1 \x00 1"), {Kind: impl.CeWrite, Tx: 1, Key: long[1:]}, ce("commit 1"), ce("commit 0")})
		if c != impl.OK || replies[1].Code == impl.OK || showCert(replies[7]) != "#2" || len(left) != 3 {
			t.Errorf("%v: %v, %v", a, replies, left)
		}
	}
}

// Two look and write across each other: the classical ways to go wrong.
func TestAnomalies(t *testing.T) {
	for name, lines := range map[string][]string{
		"an update that is lost": {"begin 0: -", "begin 1: -", "read 0 x: none", "read 1 x: none", "write 0 x 1: -", "write 1 x 2: -", "commit 1: #1", "commit 0: conflict", "x=2"},
		"writes that are skew":   {"begin 0: -", "begin 1: -", "read 0 x: none", "read 1 y: none", "write 0 y 1: -", "write 1 x 2: -", "commit 0: #1", "commit 1: conflict", "y=1"},
		"phantoms that are skew": {"begin 0: -", "begin 1: -", "range 0 a b: -", "range 1 b c: -", "write 0 bb 1: -", "write 1 aa 2: -", "commit 1: #1", "commit 0: conflict", "aa=2"},
		"reads that are torn":    {"begin 0: -", "read 0 x: none", "begin 1: -", "write 1 x 1: -", "write 1 y 1: -", "commit 1: #1", "read 0 y: '1'", "commit 0: conflict", "x=1 y=1"},
		"a chain that is right":  {"begin 0: -", "begin 1: -", "begin 2: -", "read 2 y: none", "write 1 y 1: -", "read 1 x: none", "write 0 x 1: -", "commit 2: #1", "commit 1: #2", "commit 0: #3", "x=1 y=1"},
	} {
		t.Run(name, func(t *testing.T) { certify(t, lines...) })
	}
}

// All ways in which two transactions come into each other's midst, of looks and writes of each kind.
func TestAllCertifiedInterleavings(t *testing.T) {
	bodies := []string{"read %d x|write %d x %d", "range %d - -|write %d y %d", "write %d x %d|write %d y %d", "write %d x %d|read %d x", "read %d y|range %d x -"}
	script := func(body string, tx int) []impl.CertAct {
		acts := []impl.CertAct{ce(fmt.Sprint("begin ", tx))}
		for _, line := range strings.Split(body, "|") {
			acts = append(acts, ce(strings.ReplaceAll(line, "%d", fmt.Sprint(tx))))
		}
		return append(acts, ce(fmt.Sprint("commit ", tx)))
	}
	both, one := 0, 0
	for _, first := range bodies {
		for _, second := range bodies {
			eachBlend(script(first, 0), script(second, 1), nil, func(acts []impl.CertAct) {
				switch checkPlaces(t, acts) {
				case 2:
					both++
				case 1:
					one++
				default:
					t.Fatal("nobody commits", acts)
				}
			})
		}
	}
	if both < 300 || one < 300 {
		t.Error("both commit", both, "one", one)
	}
}

func eachBlend(a, b, ahead []impl.CertAct, do func([]impl.CertAct)) {
	if len(a) == 0 && len(b) == 0 {
		do(ahead)
	}
	if len(a) > 0 {
		eachBlend(a[1:], b, append(slices.Clone(ahead), a[0]), do)
	}
	if len(b) > 0 {
		eachBlend(a, b[1:], append(slices.Clone(ahead), b[0]), do)
	}
}
