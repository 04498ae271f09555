package natives

import (
	"understudy/api"
	"understudy/keys"
)

func (c call) proxy() api.Reply { return result(c.newProxy()) }

func (c call) revocable() api.Reply {
	p, r := c.newProxy()
	if isAbrupt(r) {
		return r
	}
	revoke, r := c.make(api.Thing{Kind: api.Function, Proto: nullValue(), Code: api.CRevoke, V: p})
	if isAbrupt(r) {
		return r
	}
	return result(c.make(api.Thing{Kind: api.Plain, Proto: nullValue(), Props: []api.Entry{
		property("proxy", p),
		property("revoke", revoke),
	}}))
}

// newProxy makes a proxy of the first argument, whose handler is the second.
func (c call) newProxy() (api.Value, api.Reply) {
	target, handler := c.argument(0), c.argument(1)
	if !isObject(target) || !isObject(handler) {
		return api.Value{}, c.fail()
	}
	return c.make(api.Thing{
		Kind: api.Proxy, Proto: nullValue(), Target: target, Handler: handler,
		Calls: c.w.Calls(target), Makes: c.w.Makes(target),
	})
}

func (c call) revoke() api.Reply {
	p := c.f.V
	if c.head(p).Kind != api.Proxy {
		return api.Reply{}
	}
	t, _ := c.heap().Get(p.Num)
	t.Target, t.Handler = nullValue(), nullValue()
	c.heap().Set(p.Num, t)
	return api.Reply{}
}

// isArray looks through proxies. These may form a ring, so there is an end to
// it.
func (c call) isArray() api.Reply {
	v := c.argument(0)
	for range c.heap().Len() {
		t := c.head(v)
		if t.Kind != api.Proxy {
			return api.Reply{Value: boolValue(t.Kind == api.Array)}
		}
		if !isObject(t.Handler) {
			return c.fail()
		}
		v = t.Target
	}
	return api.Reply{Value: boolValue(false)}
}

func (c call) create() api.Reply {
	proto := c.argument(0)
	if proto.Kind != api.Null && !isObject(proto) {
		return c.fail()
	}
	return result(c.make(api.Thing{Kind: api.Plain, Proto: proto}))
}

func (c call) keys() api.Reply {
	v := c.argument(0)
	if !isObject(v) {
		return c.fail()
	}
	all := c.w.Do(api.MKeys, v.Num, api.Ask{})
	if isAbrupt(all) {
		return all
	}
	var l []api.Value
	for _, k := range all.Keys {
		if k.Sym != 0 {
			continue
		}
		own := c.w.Do(api.MGetOwn, v.Num, api.Ask{Key: k})
		if isAbrupt(own) {
			return own
		}
		if own.Has && own.Desc.Enumerable {
			l = append(l, keys.Value(k))
		}
	}
	return result(c.w.Array(l))
}
