package tests

import (
	"fmt"
	"maps"
	"math"
	"slices"
	"strconv"
	"strings"

	"loop.example/g00208/impl"
)

var ceKinds = map[string]int{
	"begin": impl.CeBegin, "read": impl.CeRead, "range": impl.CeRange, "write": impl.CeWrite, "commit": impl.CeCommit, "abort": impl.CeAbort,
}

// ce reads an act: its kind, its transaction, a key, and what is written or the end of a range; - stands for an empty text.
func ce(words string) impl.CertAct {
	w := append(strings.Fields(words), "0", "-", "-")
	for i := range w {
		if w[i] == "-" {
			w[i] = ""
		}
	}
	tx, _ := strconv.Atoi(w[1])
	a := impl.CertAct{Kind: ceKinds[w[0]], Tx: tx}
	switch w[0] {
	case "range":
		a.Key, a.To = w[2], w[3]
	case "write":
		a.Key, a.Value = w[2], w[3]
	case "read":
		a.Key = w[2]
	}
	return a
}

// showCert tells a reply: the word of its code, #place, 'value', key=value of each entry; - of nothing.
func showCert(r impl.CertReply) string {
	told := showMv(impl.MvReply{Code: r.Code, Value: r.Value, List: r.List})
	if r.Place == 0 {
		return told
	}
	return strings.TrimSuffix("#"+strconv.Itoa(r.Place)+" "+told, " -")
}

func sameCert(a, b impl.CertReply) bool {
	return a.Code == b.Code && a.Place == b.Place && a.Value == b.Value && slices.Equal(a.List, b.List)
}

// witness keeps what each commit wrote and left, and no times of keys.
type witness struct {
	left  []map[string]string
	wrote []map[string]string
	open  [6]*guest
}

type guest struct {
	own     map[string]string
	glances []glance
}

type glance struct {
	kind, ahead   int
	key, to, what string
}

func newWitness() *witness { return &witness{left: []map[string]string{{}}} }

func (g glance) hits(key string) bool {
	if g.kind == impl.CeRead {
		return key == g.key
	}
	return key >= g.key && (g.to == "" || key < g.to)
}

func (w *witness) act(a impl.CertAct) impl.CertReply {
	switch {
	case a.Kind < 1 || a.Kind > 6:
		return impl.CertReply{Code: impl.ErrForm}
	case a.Tx < 0 || a.Tx > 5:
		return impl.CertReply{Code: impl.ErrRange}
	case a.Kind == impl.CeBegin && w.open[a.Tx] != nil:
		return impl.CertReply{Code: impl.ErrTwice}
	case a.Kind == impl.CeBegin:
		w.open[a.Tx] = &guest{own: map[string]string{}}
		return impl.CertReply{}
	case w.open[a.Tx] == nil:
		return impl.CertReply{Code: impl.ErrClosed}
	}
	return w.actOf(w.open[a.Tx], a)
}

func (w *witness) actOf(g *guest, a impl.CertAct) impl.CertReply {
	noKey := a.Key == "" || len(a.Key) > 80
	switch a.Kind {
	case impl.CeRead, impl.CeRange:
		if a.Kind == impl.CeRead && noKey || len(a.Key) > 80 || a.Kind == impl.CeRange && len(a.To) > 80 {
			return impl.CertReply{Code: impl.ErrBad}
		}
		reply := lookedAt(w.left[len(w.wrote)], g.own, a)
		g.glances = append(g.glances, glance{kind: a.Kind, ahead: len(w.wrote), key: a.Key, to: a.To, what: showCert(reply)})
		return reply
	case impl.CeWrite:
		_, again := g.own[a.Key]
		if noKey || len(a.Value) > 200 {
			return impl.CertReply{Code: impl.ErrBad}
		}
		if !again && len(g.own) == 8 {
			return impl.CertReply{Code: impl.ErrFull}
		}
		g.own[a.Key] = a.Value
		return impl.CertReply{}
	}
	w.open[a.Tx] = nil
	if a.Kind == impl.CeAbort {
		return impl.CertReply{}
	}
	return w.commit(g)
}

func (w *witness) commit(g *guest) impl.CertReply {
	for _, look := range g.glances {
		for _, wrote := range w.wrote[look.ahead:] {
			for key := range wrote {
				if look.hits(key) {
					return impl.CertReply{Code: impl.ErrConflict}
				}
			}
		}
	}
	next := maps.Clone(w.left[len(w.wrote)])
	maps.Copy(next, g.own)
	w.wrote = append(w.wrote, g.own)
	w.left = append(w.left, next)
	return impl.CertReply{Place: len(w.wrote)}
}

// lookedAt is what a read or range is told of what is committed, with its own writes over it.
func lookedAt(committed, own map[string]string, a impl.CertAct) impl.CertReply {
	seen := maps.Clone(committed)
	maps.Copy(seen, own)
	if a.Kind == impl.CeRead {
		if value, ok := seen[a.Key]; ok {
			return impl.CertReply{Value: value}
		}
		return impl.CertReply{Code: impl.ErrNone}
	}
	g := glance{kind: a.Kind, key: a.Key, to: a.To}
	return impl.CertReply{List: slices.DeleteFunc(entriesOf(seen), func(e impl.Entry) bool { return !g.hits(e.Key) })}
}

// someCertActs go wrong in some runs, and well in others.
func someCertActs() []impl.CertAct {
	key, value := strings.Repeat("k", impl.MaxKey), strings.Repeat("v", impl.MaxDatum)
	var acts []impl.CertAct
	for _, kind := range []int{math.MinInt, -1, 0, impl.CeBegin, impl.CeRead, impl.CeRange, impl.CeWrite, impl.CeCommit, impl.CeAbort, 7, 1<<32 + 1, math.MaxInt} {
		for _, tx := range []int{math.MinInt, -1, 0, 1, impl.MaxTxs - 1, impl.MaxTxs, math.MaxInt} {
			acts = append(acts, impl.CertAct{Kind: kind, Tx: tx}, impl.CertAct{Kind: kind, Tx: tx, Key: "b", Value: "new", To: "d"})
		}
		acts = append(acts, impl.CertAct{Kind: kind, Key: key, Value: value, To: key}, impl.CertAct{Kind: kind, Key: key + "k"},
			impl.CertAct{Kind: kind, Key: "a", Value: value + "v"}, impl.CertAct{Kind: kind, Key: "a", To: key + "k"})
	}
	return acts
}

// rolledCert are acts on few keys, so that transactions meet, or on more that are rarely committed; some of them go wrong.
func rolledCert(d *dice, count int) []impl.CertAct {
	keys := []string{"a", "b", "c", "d", "a\x00", "\xff"}
	patient := d.below(4) == 0
	if patient || d.below(2) == 0 {
		keys = append(keys, "e", "f", "g", "h", "i", "j", "k", "l", "m", "n", "o", "p")
	}
	key := func() string { return keys[d.below(len(keys))] }
	odd := someCertActs()
	var acts []impl.CertAct
	for i := range count {
		a := impl.CertAct{Tx: d.below(6), Key: key(), Value: fmt.Sprint(i)}
		switch n := d.below(40); {
		case n < 8:
			a.Kind = impl.CeBegin
		case n < 14 || n < 22 && patient:
			a.Kind = impl.CeWrite
		case n < 21:
			a.Kind = impl.CeRead
		case n < 25:
			a.Kind = impl.CeRange
			a.Key, a.To = []string{"", key()}[d.below(2)], []string{"", key()}[d.below(2)]
		case n < 36 && patient && d.below(9) > 0:
			a.Kind = impl.CeWrite
		case n < 36:
			a.Kind = impl.CeCommit
		case n < 37:
			a.Kind = impl.CeAbort
		case n < 39:
			a = odd[d.below(len(odd))]
		default:
			a.Kind, a.Key = impl.CeRead+d.below(3), ""
		}
		acts = append(acts, a)
	}
	return acts
}
