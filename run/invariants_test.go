package run

import (
	"testing"

	"understudy/api"
	"understudy/desc"
)

// firstViolation is the index of the first element of l that violates an
// invariant of chapter 22, or -1.
func firstViolation(l []api.Seen) int {
	of := map[int][]int{}
	for i, e := range l {
		var h history
		for _, j := range of[e.Thing] {
			if j < e.From {
				h = append(h, past{j, l[j]})
			}
		}
		if h.forbids(e) {
			return i
		}
		of[e.Thing] = append(of[e.Thing], i)
	}
	return -1
}

// history are the elements for an object that precede another one.
type history []past

type past struct {
	at int
	api.Seen
}

func (p past) beganAfter(at int) bool { return p.at > at && p.From > at }

func (h history) first(f func(p past) bool) (past, bool) {
	for _, p := range h {
		if f(p) {
			return p, true
		}
	}
	return past{}, false
}

func (h history) closed() (int, bool) {
	p, is := h.first(func(p past) bool { return p.Method == api.MIsExt && !p.Reply.OK })
	return p.at, is
}

func (h history) knownProto() (api.Value, bool) {
	at, closed := h.closed()
	p, known := h.first(func(p past) bool { return closed && p.Method == api.MGetProto && p.beganAfter(at) })
	return p.Reply.Value, known
}

func (h history) gone(k api.Key) bool {
	at, closed := h.closed()
	_, gone := h.first(func(p past) bool {
		if !closed || !p.beganAfter(at) {
			return false
		}
		return p.Method == api.MGetOwn && p.Ask.Key == k && !p.Reply.Has || p.Method == api.MKeys && occurrences(p.Reply.Keys, k) == 0
	})
	return gone
}

func occurrences(l []api.Key, k api.Key) int {
	n := 0
	for _, x := range l {
		if x == k {
			n++
		}
	}
	return n
}

func (h history) fixed(k api.Key) (api.Desc, bool) {
	is := func(p past) bool {
		return p.Method == api.MGetOwn && p.Ask.Key == k && p.Reply.Has && !p.Reply.Desc.Configurable
	}
	p, fixed := h.first(is)
	if fixed && desc.Data(p.Reply.Desc) && p.Reply.Desc.Writable {
		if q, ok := h.first(func(p past) bool { return is(p) && desc.Data(p.Reply.Desc) && !p.Reply.Desc.Writable }); ok {
			p = q
		}
	}
	return p.Reply.Desc, fixed
}

func (h history) forbids(e api.Seen) bool {
	_, closed := h.closed()
	proto, known := h.knownProto()
	fixed, isFixed := h.fixed(e.Ask.Key)
	isData := isFixed && desc.Data(fixed) && !fixed.Writable
	switch r := e.Reply; e.Method {
	case api.MIsExt:
		return r.OK && closed
	case api.MGetProto:
		return known && r.Value != proto
	case api.MSetProto:
		return r.OK && known && e.Ask.Value != proto
	case api.MGetOwn:
		return !r.Has && isFixed || r.Has && h.forbidsOwn(e)
	case api.MHas:
		return !r.OK && isFixed
	case api.MDelete:
		return r.OK && isFixed
	case api.MDefine:
		return r.OK && h.gone(e.Ask.Key)
	case api.MGet:
		return isData && r.Value != fixed.Value || isFixed && fixed.HasGet && fixed.Get == undefined && r.Value != undefined
	case api.MSet:
		return r.OK && (isData && e.Ask.Value != fixed.Value || isFixed && fixed.HasSet && fixed.Set == undefined)
	case api.MKeys:
		return h.forbidsKeys(r.Keys)
	}
	return false
}

func (h history) forbidsOwn(e api.Seen) bool {
	d := e.Reply.Desc
	if !desc.Whole(d) || h.gone(e.Ask.Key) {
		return true
	}
	fixed, isFixed := h.fixed(e.Ask.Key)
	if !isFixed {
		return false
	}
	if d.Configurable || d.Enumerable != fixed.Enumerable || desc.Data(d) != desc.Data(fixed) {
		return true
	}
	if desc.Accessor(fixed) {
		return d.Get != fixed.Get || d.Set != fixed.Set
	}
	return !fixed.Writable && (d.Writable || d.Value != fixed.Value)
}

func (h history) forbidsKeys(l []api.Key) bool {
	for _, k := range l {
		if occurrences(l, k) > 1 || h.gone(k) {
			return true
		}
	}
	for _, p := range h {
		if p.Method == api.MGetOwn && p.Reply.Has && !p.Reply.Desc.Configurable && occurrences(l, p.Ask.Key) == 0 {
			return true
		}
	}
	return false
}

// TestFirstViolation: what judges the logs here does find violations.
func TestFirstViolation(t *testing.T) {
	a := api.Ask{Key: name("a")}
	ok, not := api.Reply{OK: true}, api.Reply{}
	seen := func(m int, ask api.Ask, r api.Reply) api.Seen { return api.Seen{Method: m, Ask: ask, Reply: r} }
	own := func(d api.Desc) api.Seen { return seen(api.MGetOwn, a, api.Reply{Has: true, Desc: d}) }
	closed, none := seen(api.MIsExt, api.Ask{}, not), seen(api.MGetOwn, a, not)
	for i, l := range [][]api.Seen{
		{closed, seen(api.MIsExt, api.Ask{}, ok)},
		{closed, seen(api.MGetProto, api.Ask{}, api.Reply{Value: null}), seen(api.MGetProto, api.Ask{}, api.Reply{Value: obj(1)})},
		{closed, seen(api.MGetProto, api.Ask{}, api.Reply{Value: null}), seen(api.MSetProto, api.Ask{Value: obj(1)}, ok)},
		{own(dataDesc(yes, "we")), none},
		{own(api.Desc{})},
		{closed, none, own(dataDesc(yes, "wec"))},
		{closed, none, seen(api.MDefine, a, ok)},
		{closed, none, seen(api.MKeys, api.Ask{}, api.Reply{Keys: []api.Key{name("a")}})},
		{own(dataDesc(yes, "")), own(dataDesc(no, ""))},
		{own(dataDesc(yes, "w")), own(dataDesc(yes, "")), own(dataDesc(yes, "w"))},
		{own(sides(obj(1), undefined, "")), own(sides(obj(2), undefined, ""))},
		{own(dataDesc(yes, "")), seen(api.MHas, a, not)},
		{own(dataDesc(yes, "")), seen(api.MDelete, a, ok)},
		{own(dataDesc(yes, "")), seen(api.MGet, a, api.Reply{Value: no})},
		{own(sides(undefined, undefined, "")), seen(api.MGet, a, api.Reply{Value: no})},
		{own(sides(undefined, undefined, "")), seen(api.MSet, a, ok)},
		{own(dataDesc(yes, "")), seen(api.MSet, a, ok)},
		{own(dataDesc(yes, "w")), seen(api.MKeys, api.Ask{}, api.Reply{})},
		{seen(api.MKeys, api.Ask{}, api.Reply{Keys: []api.Key{name("a"), name("a")}})},
	} {
		for j := range l {
			l[j].From = j
		}
		if got := firstViolation(l); got != len(l)-1 {
			t.Errorf("row %d: %d", i, got)
		}
		l[len(l)-1].From = 0
		if got := firstViolation(l); len(l) > 1 && got != -1 {
			t.Errorf("row %d, at the same time: %d", i, got)
		}
	}
}
