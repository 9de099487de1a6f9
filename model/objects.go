package model

import "dustcart/api"

// object is one that was made; its references begin at the index `first` of the model's words, its data words follow them.
type object struct {
	shape api.Shape
	first int
}

// loose is, for each kind of objects, how many of their first references do not keep by themselves what they lead to. An object of that kind has all of these references.
var loose = [...]int{api.Plain: 0, api.Weak: 1, api.Ephemeron: 2, api.Special: 0}

func isValid(s api.Shape) bool {
	return s.Kind >= 0 && s.Kind < len(loose) &&
		s.Refs >= loose[s.Kind] && s.Refs <= api.MaxRefs &&
		s.Data >= 0 && s.Data <= api.MaxData
}

// add makes an object and returns its identity.
func (m *Model) add(s api.Shape) int {
	m.objects = append(m.objects, object{shape: s, first: len(m.words)})
	m.words = append(m.words, make([]int, s.Refs+s.Data)...)
	return len(m.objects)
}

func (m *Model) has(ident int) bool {
	return ident >= 1 && ident <= len(m.objects)
}

// checkObject looks for what forbids a call about the object with an identity.
func (m *Model) checkObject(ident int) api.Errno {
	if !m.made() {
		return api.ErrState
	}
	if !m.has(ident) {
		return api.ErrNone
	}
	return api.OK
}

func (m *Model) shape(ident int) api.Shape {
	return m.objects[ident-1].shape
}

// refs returns the references of an object, to be read or changed.
func (m *Model) refs(ident int) []int {
	o := m.objects[ident-1]
	return m.words[o.first : o.first+o.shape.Refs]
}

// data returns the data words of an object, to be read or changed.
func (m *Model) data(ident int) []int {
	o := m.objects[ident-1]
	first := o.first + o.shape.Refs
	return m.words[first : first+o.shape.Data]
}

// at returns one of some words, to be read or changed; nil, if there is none with that index.
func at(words []int, i int) *int {
	if i < 0 || i >= len(words) {
		return nil
	}
	return &words[i]
}

// Shape returns the shape of an object.
func (m *Model) Shape(ident int) (api.Shape, api.Errno) {
	if e := m.checkObject(ident); e != api.OK {
		return api.Shape{}, e
	}
	return m.shape(ident), api.OK
}

// Ref returns a reference of an object.
func (m *Model) Ref(ident, i int) (int, api.Errno) {
	if e := m.checkObject(ident); e != api.OK {
		return 0, e
	}
	ref := at(m.refs(ident), i)
	if ref == nil {
		return 0, api.ErrArg
	}
	return *ref, api.OK
}

// Data returns a data word of an object.
func (m *Model) Data(ident, i int) (int, api.Errno) {
	if e := m.checkObject(ident); e != api.OK {
		return 0, e
	}
	word := at(m.data(ident), i)
	if word == nil {
		return 0, api.ErrArg
	}
	return *word, api.OK
}

// SetRef changes a reference of an object.
func (m *Model) SetRef(ident, i, to int) api.Errno {
	if e := m.checkObject(ident); e != api.OK {
		return e
	}
	ref := at(m.refs(ident), i)
	if ref == nil || to != 0 && !m.has(to) {
		return api.ErrArg
	}
	*ref = to
	return api.OK
}

// Births returns how many objects were made.
func (m *Model) Births() int {
	if !m.made() {
		return 0
	}
	return len(m.objects)
}
