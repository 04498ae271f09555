package heap

import (
	"iter"
	"slices"

	"understudy/api"
)

// properties are those of one object in their order. They form a ring, so that
// one can be removed from among many others without moving these; end is the
// place between the last and the first.
type properties struct {
	end   property
	first map[api.Key]*property
}

type property struct {
	entry         api.Entry
	before, after *property
	again         *property // the next one with the same key
}

// collect goes backwards, since insert expects a property before those with
// the same key that are there already.
func collect(l []api.Entry) *properties {
	p := &properties{first: make(map[api.Key]*property, len(l))}
	p.end.before, p.end.after = &p.end, &p.end
	for _, e := range slices.Backward(l) {
		p.insert(&p.end, e)
	}
	return p
}

// insert adds e directly after the place at.
func (p *properties) insert(at *property, e api.Entry) {
	x := &property{entry: e, before: at, after: at.after, again: p.first[e.Key]}
	x.before.after, x.after.before = x, x
	p.first[e.Key] = x
}

func (p *properties) get(k api.Key) (api.Desc, bool) {
	x := p.first[k]
	if x == nil {
		return api.Desc{}, false
	}
	return x.entry.Desc, true
}

func (p *properties) put(k api.Key, d api.Desc) {
	if x := p.first[k]; x != nil {
		x.entry.Desc = d
		return
	}
	p.insert(p.end.before, api.Entry{Key: k, Desc: d})
}

func (p *properties) drop(k api.Key) bool {
	x := p.first[k]
	if x == nil {
		return false
	}
	x.before.after, x.after.before = x.after, x.before
	if x.again == nil {
		delete(p.first, k)
	} else {
		p.first[k] = x.again
	}
	return true
}

func (p *properties) entries() []api.Entry {
	return slices.AppendSeq(make([]api.Entry, 0, len(p.first)), p.all())
}

func (p *properties) keys() []api.Key {
	l := make([]api.Key, 0, len(p.first))
	for e := range p.all() {
		l = append(l, e.Key)
	}
	return l
}

func (p *properties) all() iter.Seq[api.Entry] {
	return func(yield func(api.Entry) bool) {
		for x := p.end.after; x != &p.end; x = x.after {
			if !yield(x.entry) {
				return
			}
		}
	}
}
