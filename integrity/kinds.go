package integrity

import (
	"understudy/api"
	"understudy/desc"
)

// property is what an object has for one of its keys.
type property interface{ configurable() bool }

// holder is a property that holds a value.
type holder interface {
	property
	writable() bool
}

// The kinds of properties. One may be missing, since a proxy can lose it after
// it has told its keys.
type (
	missing  struct{}
	accessor struct{ desc api.Desc }
	data     struct{ accessor }
)

// propertyOf returns the property that r, the reply of MGetOwn, tells of.
func propertyOf(r api.Reply) property {
	if !r.Has {
		return missing{}
	}
	p := accessor{r.Desc}
	if desc.Data(r.Desc) {
		return data{p}
	}
	return p
}

// sealing returns the descriptor that seals a property of any kind.
func sealing() api.Desc { return api.Desc{HasConfigurable: true} }

// freezing returns the descriptor that freezes p, or false if p is missing.
func freezing(p property) (api.Desc, bool) {
	d := sealing()
	switch p.(type) {
	case missing:
		return api.Desc{}, false
	case holder:
		d.HasWritable = true
	}
	return d, true
}

func isSealed(p property) bool { return !p.configurable() }

func isFrozen(p property) bool { return isSealed(p) && !(isHolder(p) && p.(holder).writable()) }

func isHolder(p property) bool {
	switch p.(type) {
	case holder:
		return true
	}
	return false
}

func (missing) configurable() bool { return false }

func (p accessor) configurable() bool { return p.desc.Configurable }

func (p data) writable() bool { return p.desc.Writable }
