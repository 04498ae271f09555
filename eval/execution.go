package eval

import (
	"slices"

	"understudy/api"
	"understudy/heap"
	"understudy/mop"
)

// execution is that of a program, or of one call of a function. What remains
// to be done is kept in a list, so that a tree may be deeper than calls can be.
type execution struct {
	m      *Machine
	w      *mop.World
	this   api.Value
	env    int         // the present scope
	tasks  []task      // the next one is the last of the list
	values []api.Value // those of the expressions that others are waiting for
	places []place     // likewise
	last   api.Value   // the value of the last SExpr
}

// task is something that remains to be done. If it has a flow that is not Done,
// it passes this up by end.
type task interface {
	do(x *execution)
}

// ending is what end panics with.
type ending struct{ reply api.Reply }

func (e *ending) Error() string { return "a flow that is not Done" }

// end ends what is being done with r, which is abrupt.
func (x *execution) end(r api.Reply) { panic(&ending{r}) }

// must returns r, unless it is abrupt and ends what is being done.
func (x *execution) must(r api.Reply) api.Reply {
	if isAbrupt(r) {
		x.end(r)
	}
	return r
}

// throw throws a new error of that name.
func (x *execution) throw(name string) { x.end(x.w.Fail(name)) }

func (x *execution) step() { x.must(x.w.Step()) }

// run executes the list of statements that n has. The reply has no value if
// the flow is Done.
func (x *execution) run(n *api.Node) api.Reply {
	x.then(list{n})
	for {
		r := x.advance()
		if !isAbrupt(r) || !x.meet(r) {
			return r
		}
	}
}

// advance does what remains to be done, until nothing is left or something
// ends it.
func (x *execution) advance() (r api.Reply) {
	defer func() {
		switch e := recover().(type) {
		case nil:
		case *ending:
			r = e.reply
		default:
			panic(e)
		}
	}()
	for len(x.tasks) > 0 {
		x.next().do(x)
	}
	return api.Reply{}
}

// meet removes what remains to be done, up to the first task that r does not
// end, and reports whether there is one.
func (x *execution) meet(r api.Reply) bool {
	switch r.Flow {
	case api.NoFuel, api.NoRoom, api.TooDeep:
		return false
	}
	x.values, x.places = nil, nil // no statement waits for them, and nobody else will
	for len(x.tasks) > 0 {
		switch t := x.next().(type) {
		case leave:
			t.do(x)
		case round:
			if r.Flow == api.Break {
				return true
			}
			if r.Flow == api.Again {
				x.then(t)
				return true
			}
		case rescue:
			if r.Flow == api.Threw {
				t.catch(x, r.Value)
				return true
			}
		case cleanup:
			x.then(t, resume{r})
			return true
		}
	}
	return false
}

// then has tasks done in this order, before everything else that remains.
func (x *execution) then(tasks ...task) {
	for _, t := range slices.Backward(tasks) {
		x.tasks = append(x.tasks, t)
	}
}

// next removes the next task.
func (x *execution) next() task {
	t := x.tasks[len(x.tasks)-1]
	x.tasks = x.tasks[:len(x.tasks)-1]
	return t
}

// give leaves v to the expression that waits for it.
func (x *execution) give(v api.Value) { x.values = append(x.values, v) }

// top returns the value that was given last, and leaves it.
func (x *execution) top() api.Value { return x.values[len(x.values)-1] }

// take returns the value that was given last.
func (x *execution) take() api.Value { return x.takeAll(1)[0] }

// takeAll returns the n values that were given last.
func (x *execution) takeAll(n int) []api.Value {
	rest := len(x.values) - n
	l := x.values[rest:]
	x.values = x.values[:rest]
	return l
}

// make creates an object.
func (x *execution) make(t api.Thing) api.Value {
	o, ok := x.heap().Make(t)
	return x.made(o, ok)
}

// made returns the object o, or ends what is being done if there was no room.
func (x *execution) made(o int, ok bool) api.Value {
	if !ok {
		x.end(api.Reply{Flow: api.NoRoom})
	}
	return objectValue(o)
}

// heap returns the objects of the world. Since its Heap can be set by anyone,
// there may be none; that is like one without room.
func (x *execution) heap() *heap.Heap {
	if x.w.Heap == nil {
		return heap.New(0)
	}
	return x.w.Heap
}

const (
	typeError      = "TypeError"
	syntaxError    = "SyntaxError"
	referenceError = "ReferenceError"
)

func objectValue(o int) api.Value { return api.Value{Kind: api.Object, Num: o} }

func isObject(v api.Value) bool { return v.Kind == api.Object }

func isAbrupt(r api.Reply) bool { return r.Flow != api.Done }
