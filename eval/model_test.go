package eval

import (
	"understudy/api"
	"understudy/early"
	"understudy/keys"
	"understudy/mop"
	"understudy/natives"
	"understudy/ops"
	"understudy/realm"
	"understudy/scope"
	"understudy/values"
)

// model does what the chapter says by functions that call themselves, and
// passes every flow up by replies.
type model struct {
	w     *mop.World
	s     *scope.Scopes
	n     *natives.Natives
	funcs []api.Node
	built api.Reply
}

// frame is where a statement or an expression stands.
type frame struct {
	*model
	env  int
	this api.Value
	last *api.Value // nil within functions
}

func newModel(b api.Bounds) *model {
	m := &model{w: mop.New(b), s: scope.New(), n: &natives.Natives{}}
	m.built = realm.Build(m.w, m.s)
	m.w.Use(m)
	return m
}

// numbered numbers the functions of n in the order in which they begin.
func (m *model) numbered(n api.Node) api.Node {
	at := len(m.funcs)
	if n.Kind == api.NFunc {
		n.Num = at
		m.funcs = append(m.funcs, api.Node{})
	}
	kids := n.Kids
	n.Kids = nil
	for _, k := range kids {
		n.Kids = append(n.Kids, m.numbered(k))
	}
	if n.Kind == api.NFunc {
		m.funcs[at] = n
	}
	return n
}

func (m *model) run(n api.Node) api.Reply {
	if m.built.Flow != api.Done {
		return m.built
	}
	if early.Check(n) != api.OK {
		return m.w.Fail("SyntaxError")
	}
	var last api.Value
	f := frame{m, m.s.Make(0), api.Value{}, &last}
	if r := f.all(m.numbered(n).Kids); r.Flow != api.Done {
		return r
	}
	return api.Reply{Value: last}
}

func (m *model) Call(w *mop.World, x api.Thing, this api.Value, args []api.Value) api.Reply {
	if x.Code != api.CWritten {
		return m.n.Call(w, x, this, args)
	}
	f := frame{m, m.s.Make(x.Env), this, nil}
	n := m.funcs[x.N]
	for i, p := range n.Names {
		v := api.Value{}
		if i < len(args) {
			v = args[i]
		}
		m.s.Let(f.env, p, false)
		m.s.Begin(f.env, p, v)
	}
	switch r := f.all(n.Kids); r.Flow {
	case api.Return:
		return api.Reply{Value: r.Value}
	case api.Done:
		return api.Reply{}
	default:
		return r
	}
}

func value(v api.Value) api.Reply { return api.Reply{Value: v} }

func fails(r api.Reply) bool { return r.Flow != api.Done }

// inner is the frame in a new scope.
func (f frame) inner() frame {
	f.env = f.s.Make(f.env)
	return f
}

// all executes a list of statements.
func (f frame) all(l []api.Node) api.Reply {
	for _, n := range l {
		if n.Kind == api.SLet {
			f.s.Let(f.env, n.Text, false)
		} else if n.Kind == api.SConst {
			f.s.Let(f.env, n.Text, true)
		} else if n.Kind == api.SFunc {
			f.s.Let(f.env, n.Kids[0].Text, false)
		}
	}
	for _, n := range l {
		if n.Kind == api.SFunc {
			r := f.closure(n.Kids[0])
			if fails(r) {
				return r
			}
			f.s.Begin(f.env, n.Kids[0].Text, r.Value)
		}
	}
	for _, n := range l {
		if r := f.exec(n); fails(r) {
			return r
		}
	}
	return api.Reply{}
}

func (f frame) exec(n api.Node) api.Reply {
	if r := f.w.Step(); fails(r) {
		return r
	}
	var r api.Reply
	if len(n.Kids) > 0 && n.Kind != api.SBlock && n.Kind != api.STry && n.Kind != api.SFunc && n.Kind != api.SWhile {
		if r = f.eval(n.Kids[0]); fails(r) {
			return r
		}
	}
	switch n.Kind {
	case api.SLet, api.SConst:
		f.s.Begin(f.env, n.Text, r.Value)
	case api.SExpr:
		if f.last != nil {
			*f.last = r.Value
		}
	case api.SReturn:
		return api.Reply{Flow: api.Return, Value: r.Value}
	case api.SThrow:
		return api.Reply{Flow: api.Threw, Value: r.Value}
	case api.SIf:
		if values.Truth(r.Value) {
			return f.exec(n.Kids[1])
		} else if len(n.Kids) == 3 {
			return f.exec(n.Kids[2])
		}
	case api.SWhile:
		return f.loop(n)
	case api.SBreak:
		return api.Reply{Flow: api.Break}
	case api.SContinue:
		return api.Reply{Flow: api.Again}
	case api.SBlock:
		return f.inner().all(n.Kids)
	case api.STry:
		return f.attempt(n)
	}
	return api.Reply{}
}

func (f frame) loop(n api.Node) api.Reply {
	for {
		r := f.eval(n.Kids[0])
		if fails(r) {
			return r
		}
		if !values.Truth(r.Value) {
			return api.Reply{}
		}
		r = f.exec(n.Kids[1])
		if r.Flow == api.Break {
			return api.Reply{}
		}
		if r.Flow != api.Done && r.Flow != api.Again {
			return r
		}
	}
}

func (f frame) attempt(n api.Node) api.Reply {
	r := f.inner().all(n.Kids[0].Kids)
	rest := n.Kids[1:]
	if n.Num&1 != 0 {
		if r.Flow == api.Threw {
			c := f.inner()
			c.s.Let(c.env, rest[0].Text, false)
			c.s.Begin(c.env, rest[0].Text, r.Value)
			r = c.inner().all(rest[0].Kids[0].Kids)
		}
		rest = rest[1:]
	}
	if n.Num&2 == 0 || r.Flow == api.NoFuel || r.Flow == api.NoRoom || r.Flow == api.TooDeep {
		return r
	}
	if end := f.inner().all(rest[0].Kids); fails(end) {
		return end
	}
	return r
}

// closure creates a function in the scope of the frame.
func (f frame) closure(n api.Node) api.Reply {
	o, ok := f.w.Heap.Make(api.Thing{Kind: api.Function, Proto: obj(1), Extensible: true, Code: api.CWritten, N: n.Num, Env: f.env})
	if !ok {
		return api.Reply{Flow: api.NoRoom}
	}
	p, ok := realm.Object(f.w)
	if !ok {
		return api.Reply{Flow: api.NoRoom}
	}
	f.w.Heap.Put(o, name("prototype"), api.Desc{HasValue: true, HasWritable: true, HasEnumerable: true, HasConfigurable: true, Value: obj(p), Writable: true})
	return value(obj(o))
}

func (f frame) eval(n api.Node) api.Reply {
	if r := f.w.Step(); fails(r) {
		return r
	}
	switch n.Kind {
	case api.NNumber:
		return value(number(n.Num))
	case api.NString:
		return value(str(n.Text))
	case api.NTrue:
		return value(yes)
	case api.NFalse:
		return value(no)
	case api.NNull:
		return value(null)
	case api.NThis:
		return value(f.this)
	case api.NName:
		v, e := f.s.Get(f.env, n.Text)
		if e != 0 {
			return f.w.Fail("ReferenceError")
		}
		return value(v)
	case api.NArray:
		l, r := f.list(n.Kids)
		if fails(r) {
			return r
		}
		v, r := realm.List(f.w, l)
		r.Value = v
		return r
	case api.NObject:
		return f.object(n)
	case api.NFunc:
		if n.Text == "" {
			return f.closure(n)
		}
		g := f.inner()
		r := g.closure(n)
		if !fails(r) {
			g.s.Let(g.env, n.Text, true)
			g.s.Begin(g.env, n.Text, r.Value)
		}
		return r
	case api.NMember, api.NIndex:
		o, k, r := f.refer(n)
		if fails(r) {
			return r
		}
		return f.w.Do(api.MGet, o.Num, api.Ask{Key: k, Receiver: o})
	case api.NCall:
		return f.call(n)
	case api.NNew:
		return f.create(n)
	}
	return f.operator(n)
}

func (f frame) operator(n api.Node) api.Reply {
	switch n.Kind {
	case api.NUnary:
		return f.unary(n)
	case api.NBinary:
		return f.binary(n)
	case api.NAnd, api.NOr:
		r := f.eval(n.Kids[0])
		if fails(r) || values.Truth(r.Value) == (n.Kind == api.NOr) {
			return r
		}
		return f.eval(n.Kids[1])
	case api.NCond:
		r := f.eval(n.Kids[0])
		if fails(r) {
			return r
		}
		if values.Truth(r.Value) {
			return f.eval(n.Kids[1])
		}
		return f.eval(n.Kids[2])
	case api.NAssign:
		return f.assign(n)
	}
	return api.Reply{} // undefined
}

func (f frame) list(l []api.Node) ([]api.Value, api.Reply) {
	var all []api.Value
	for _, n := range l {
		r := f.eval(n)
		if fails(r) {
			return nil, r
		}
		all = append(all, r.Value)
	}
	return all, api.Reply{}
}

// refer evaluates a reference.
func (f frame) refer(n api.Node) (api.Value, api.Key, api.Reply) {
	o := f.eval(n.Kids[0])
	if fails(o) {
		return api.Value{}, api.Key{}, o
	}
	k := value(str(n.Text))
	if n.Kind == api.NIndex {
		if k = f.eval(n.Kids[1]); fails(k) {
			return api.Value{}, api.Key{}, k
		}
	}
	if o.Value.Kind != api.Object {
		return api.Value{}, api.Key{}, f.w.Fail("TypeError")
	}
	key, ok := keys.Of(k.Value)
	if !ok {
		return api.Value{}, api.Key{}, f.w.Fail("TypeError")
	}
	return o.Value, key, api.Reply{}
}

func (f frame) object(n api.Node) api.Reply {
	o, ok := realm.Object(f.w)
	if !ok {
		return api.Reply{Flow: api.NoRoom}
	}
	for _, p := range n.Kids {
		k, d := name(p.Text), api.Desc{HasEnumerable: true, HasConfigurable: true, Enumerable: true, Configurable: true}
		if p.Kind == api.NPair {
			r := f.eval(p.Kids[0])
			if fails(r) {
				return r
			}
			if k, ok = keys.Of(r.Value); !ok {
				return f.w.Fail("TypeError")
			}
			if r = f.eval(p.Kids[1]); fails(r) {
				return r
			}
			d.HasValue, d.Value, d.HasWritable, d.Writable = true, r.Value, true, true
		} else {
			r := f.closure(p.Kids[0])
			if fails(r) {
				return r
			}
			if p.Kind == api.NGet {
				d.HasGet, d.Get = true, r.Value
			} else {
				d.HasSet, d.Set = true, r.Value
			}
		}
		r := f.w.Do(api.MDefine, o, api.Ask{Key: k, Desc: d})
		if fails(r) {
			return r
		}
		if !r.OK {
			return f.w.Fail("TypeError")
		}
	}
	return value(obj(o))
}

func (f frame) call(n api.Node) api.Reply {
	var this api.Value
	var callee api.Reply
	if c := n.Kids[0]; c.Kind == api.NMember || c.Kind == api.NIndex {
		o, k, r := f.refer(c)
		if fails(r) {
			return r
		}
		this = o
		callee = f.w.Do(api.MGet, o.Num, api.Ask{Key: k, Receiver: o})
	} else {
		callee = f.eval(c)
	}
	if fails(callee) {
		return callee
	}
	args, r := f.list(n.Kids[1:])
	if fails(r) {
		return r
	}
	if !f.w.Calls(callee.Value) {
		return f.w.Fail("TypeError")
	}
	return f.w.Do(api.MCall, callee.Value.Num, api.Ask{Receiver: this, List: args})
}

func (f frame) create(n api.Node) api.Reply {
	l, r := f.list(n.Kids)
	if fails(r) {
		return r
	}
	if !f.w.Makes(l[0]) {
		return f.w.Fail("TypeError")
	}
	return f.w.Do(api.MConstruct, l[0].Num, api.Ask{Receiver: l[0], List: l[1:]})
}

func (f frame) unary(n api.Node) api.Reply {
	x := n.Kids[0]
	if n.Text == "delete" {
		o, k, r := f.refer(x)
		if fails(r) {
			return r
		}
		if r = f.w.Do(api.MDelete, o.Num, api.Ask{Key: k}); fails(r) {
			return r
		}
		if !r.OK {
			return f.w.Fail("TypeError")
		}
		return value(yes)
	}
	if n.Text == "typeof" && x.Kind == api.NName {
		if _, e := f.s.Get(f.env, x.Text); e == 1 {
			return value(str("undefined"))
		}
	}
	r := f.eval(x)
	if fails(r) {
		return r
	}
	switch n.Text {
	case "typeof":
		return value(str(values.Type(r.Value, f.w.Calls(r.Value))))
	case "!":
		if values.Truth(r.Value) {
			return value(no)
		}
		return value(yes)
	}
	v, e := ops.Minus(r.Value)
	if e != "" {
		return f.w.Fail(e)
	}
	return value(v)
}

func (f frame) binary(n api.Node) api.Reply {
	l, r := f.list(n.Kids)
	if fails(r) {
		return r
	}
	if n.Text != "in" {
		v, e := ops.Binary(n.Text, l[0], l[1])
		if e != "" {
			return f.w.Fail(e)
		}
		return value(v)
	}
	if l[1].Kind != api.Object {
		return f.w.Fail("TypeError")
	}
	k, ok := keys.Of(l[0])
	if !ok {
		return f.w.Fail("TypeError")
	}
	if r = f.w.Do(api.MHas, l[1].Num, api.Ask{Key: k}); fails(r) {
		return r
	}
	if r.OK {
		return value(yes)
	}
	return value(no)
}

func (f frame) assign(n api.Node) api.Reply {
	target := n.Kids[0]
	if target.Kind == api.NName {
		r := f.eval(n.Kids[1])
		if fails(r) {
			return r
		}
		switch f.s.Set(f.env, target.Text, r.Value) {
		case 0:
			return r
		case 3:
			return f.w.Fail("TypeError")
		}
		return f.w.Fail("ReferenceError")
	}
	o, k, r := f.refer(target)
	if fails(r) {
		return r
	}
	v := f.eval(n.Kids[1])
	if fails(v) {
		return v
	}
	if r = f.w.Do(api.MSet, o.Num, api.Ask{Key: k, Value: v.Value, Receiver: o}); fails(r) {
		return r
	}
	if !r.OK {
		return f.w.Fail("TypeError")
	}
	return v
}
