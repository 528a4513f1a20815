// Package promises holds all layers against what the document promises of every call: that it ends, panics at nothing, and changes nothing that is handed in.
package promises

import (
	"fmt"
	"math/rand"
	"testing"

	"deemster/api"
	"deemster/axiom"
	"deemster/back"
	"deemster/bound"
	"deemster/cert"
	"deemster/check"
	"deemster/close"
	"deemster/decide"
	"deemster/desk"
	"deemster/erase"
	"deemster/forced"
	"deemster/front"
	"deemster/hist"
	"deemster/inner"
	"deemster/judge"
	"deemster/log"
	"deemster/name"
	"deemster/pair"
	"deemster/part"
	"deemster/report"
	"deemster/ring"
	"deemster/sample"
	"deemster/satur"
	"deemster/script"
	"deemster/search"
	"deemster/show"
	"deemster/split"
	"deemster/table"
	"deemster/text"
	"deemster/topo"
	"deemster/unit"
	"deemster/value"
	"deemster/whole"
	"deemster/why"
	"deemster/world"
	"deemster/wr"
	"deemster/writer"
)

// drawer draws arguments, fair ones and others, the same ones each time.
type drawer struct{ *rand.Rand }

func (d drawer) number() int {
	switch d.Intn(12) {
	case 0:
		return -1
	case 1:
		return 1 << 62
	case 2:
		return -1 << 63
	case 3:
		return api.MaxTxns
	}
	return d.Intn(5)
}

// little is a number that as many nodes may be used as.
func (d drawer) little() int {
	if n := d.number(); n < 1000 {
		return n
	}
	return 300
}

func many[T any](d drawer, one func() T) []T {
	var l []T
	for range d.Intn(5) {
		l = append(l, one())
	}
	return l
}

func (d drawer) numbers() []int { return many(d, d.number) }

func (d drawer) is() bool { return d.Intn(2) == 0 }

func (d drawer) name() string {
	return []string{"", "s0", "s1", "k0", "k1", "k2", "nil", "\xff", "é", "ok", "\n", " #"}[d.Intn(12)]
}

func (d drawer) value() api.Value { return api.Value{Kind: d.number(), N: int64(d.number())} }

func (d drawer) edge() api.Edge { return api.Edge{A: d.Intn(6) - 1, B: d.Intn(6)} }

func (d drawer) op() api.Op { return api.Op{Write: d.is(), Key: d.number(), V: d.value()} }

func (d drawer) txn() api.Txn {
	return api.Txn{Session: d.number(), Fate: d.number(), L: many(d, d.op)}
}

func (d drawer) event() api.Event {
	return api.Event{Kind: d.number(), Session: d.name(), Key: d.name(), V: d.value(), Line: d.number()}
}

func (d drawer) place() api.Place { return api.Place{Txn: d.number(), Op: d.number()} }

func (d drawer) world() api.World { return api.World{Commit: many(d, d.is), Lost: many(d, d.value)} }

func (d drawer) reason() why.Reason {
	return why.Reason{Kind: d.number(), Place: d.place(), Ring: d.numbers()}
}

// history draws one that may be, and spoils it, or not.
func (d drawer) history() api.History {
	h := sample.History(d.Intn(100000), sample.Shape{Sessions: 3, Keys: 3, Txns: 4, Ops: 3, Values: 2, Open: d.is()})
	for d.is() && len(h.L) > 0 {
		t := &h.L[d.Intn(len(h.L))]
		switch d.Intn(6) {
		case 0:
			h.Sessions = many(d, d.name)
		case 1:
			h.Keys = many(d, d.name)
		case 2:
			t.Session = d.number()
		case 3:
			t.Fate = d.number()
		case 4:
			h.L = append(h.L, d.txn())
		default:
			t.L = append(t.L, d.op())
		}
	}
	return h
}

func (d drawer) report() report.Report {
	if d.is() {
		r, _ := report.Make(d.little(), d.little(), d.history(), 1000)
		return r
	}
	return report.Report{Level: d.number(), Policy: d.number(), Verdict: d.number(), Commits: d.numbers(), Aborts: d.numbers(), HasSat: d.is(), HasUnsat: d.is(),
		Sat: d.history(), Unsat: d.history(), Cert: api.Cert{Wr: d.numbers(), Co: d.numbers()}, Why: d.reason()}
}

// spoil changes some bytes of a text.
func (d drawer) spoil(s string) string {
	b := []byte(s)
	for d.is() && len(b) > 0 {
		b[d.Intn(len(b))] = "0 \n:x-a\xff"[d.Intn(8)]
	}
	return string(b)
}

func TestAllArguments(t *testing.T) {
	d := drawer{rand.New(rand.NewSource(1))}
	for range 6000 {
		h, w, r, events := d.history(), d.world(), d.report(), many(d, d.event)
		was := fmt.Sprint(h, w, r, events)
		small(d)
		histories(d, h, w)
		wholes(d, h, w)
		searches(d, h, w)
		texts(d, h, r, events)
		if now := fmt.Sprint(h, w, r, events); now != was {
			t.Fatalf("what was handed in was changed: %s, and now %s", was, now)
		}
	}
}

func small(d drawer) {
	names, values, edges, n := many(d, d.name), many(d, d.value), many(d, d.edge), d.number()
	name.Sorted(names...)
	table.Put(table.Make(names...), d.name())
	table.Map(names, many(d, d.name))
	split.Join(names...)
	split.Words(d.name() + d.name())
	value.Sorted(values...)
	part.Of(n, edges...)
	part.Which(n, edges...)
	part.Round(n, edges...)
	close.Of(n, edges...)
	close.From(n, d.number(), edges...)
	close.Thin(n, edges...)
	topo.Least(n, edges...)
	topo.Is(d.numbers(), edges...)
	topo.Count(n, edges...)
	ring.Least(n, edges...)
	ring.Is(n, d.numbers(), edges...)
	bound.Product(d.numbers()...)
}

func histories(d drawer, h api.History, w api.World) {
	p := d.place()
	hist.Ahead(h, d.number(), d.number())
	hist.Session(h, d.number())
	hist.Infos(h)
	hist.Lost(h)
	hist.Same(h, d.history())
	inner.Own(h, p)
	inner.Outer(h, p)
	inner.Leaves(h, d.number(), d.number())
	inner.Bad(h, d.number())
	inner.Writers(h, d.number())
	erase.By(h, d.little())
	erase.Place(h, p)
	writer.Of(h, p)
	writer.Values(h, p)
	writer.Fresh(h, d.number())
	writer.Most(h)
	first, _ := world.First(h)
	for _, w := range []api.World{w, first} {
		world.Commits(h, w)
		world.Tries(h, w)
		world.Next(h, w)
		search.Skip(h, w)
	}
	world.Count(h)
}

func wholes(d drawer, h api.History, w api.World) {
	if d.is() {
		w, _ = world.First(h)
	}
	g, _ := whole.Make(h, w)
	whole.World(h, g)
	whole.World(h, d.history())
	if d.is() {
		g = h
	}
	m, order := d.numbers(), d.numbers()
	if d.is() {
		m, _ = wr.First(g)
	}
	if d.is() {
		order = whole.Committed(g)
	}
	was := fmt.Sprint(m, order)
	wr.Choices(g)
	wr.Next(g, m)
	wr.Count(g)
	axiom.Holds(d.little(), g, m, order)
	axiom.Seen(d.little(), g, m, order, d.number())
	cert.Check(d.little(), g, api.Cert{Wr: m, Co: order})
	satur.Edges(d.little(), g, m)
	satur.Order(d.little(), g, m)
	satur.Ring(d.little(), g, m)
	front.Order(g, m, d.little())
	front.May(g, m, order, d.number())
	decide.Level(d.little(), g, d.little())
	why.Not(d.little(), g)
	if now := fmt.Sprint(m, order); now != was {
		panic("what was handed in was changed: " + was + ", and now " + now)
	}
}

func searches(d drawer, h api.History, w api.World) {
	unit.Must(h)
	unit.Against(h, w.Commit)
	f, _, _ := search.All(d.little(), h, d.little())
	if d.is() {
		f.Commits = many(d, d.is)
	}
	forced.Of(h, f)
	forced.Sets(d.little(), h, d.little())
	forced.Free(d.little(), h, d.little())
	judge.Judge(d.little(), d.little(), h, d.little())
	bound.Of(h, d.little())
}

func texts(d drawer, h api.History, r report.Report, events []api.Event) {
	report.Fits(h, r)
	report.Same(r, d.report())
	why.Text(h, d.reason())
	pair.History(events)
	pair.Open(events)
	log.Print(events)
	s, _ := text.Print(r)
	back.Parse(d.spoil(s))
	back.Reason(h, d.spoil(why.Text(h, r.Why)))
	shown, _ := show.Print(h)
	shown = d.spoil(shown)
	check.Check(shown, d.little(), d.little(), d.little())
	commands := d.spoil("check\nreport\nforced\nbudget 50\nworlds\nenough\nshow\nwrong\nlevel CC\ncheck")
	desk.Play(shown, commands)
	l, _, _ := script.Parse(commands)
	script.Print(append(l, script.Line{Kind: d.number(), N: d.number()}))
}
