package model_test

import (
	"testing"

	"dustcart/api"
	"dustcart/model"
)

// P4.7: whatever is done with a model, its clone stays as it was, and the other way round.
func TestCloneStays(t *testing.T) {
	do := func(a api.Act) func(m *model.Model) {
		return func(m *model.Model) { m.Do(1, a) }
	}
	calls := map[string]func(m *model.Model){
		"ActNew":    do(create(2, leaf)),
		"ActLoad":   do(load(2, 0, 0)),
		"ActStore":  do(store(0, 0, 15)),
		"ActPut":    do(put(15, 1, 100)),
		"ActCopy":   do(copied(2, 1)),
		"ActDrop":   do(drop(1)),
		"ActExport": do(export(0, 15)),
		"ActImport": do(imported(2, 0)),
		"SetRef":    func(m *model.Model) { m.SetRef(3, 1, 1) },
		"Collect":   func(m *model.Model) { m.Collect() },
		"Push":      func(m *model.Model) { m.Push(2) },
		"Pop":       func(m *model.Model) { m.Pop() },
	}
	for name, call := range calls {
		b := tangled(t)
		clone := b.clone()
		clone.same("a clone")
		call(b.m)
		clone.same("a clone, after " + name + " of the model")
		if line(state(b.m)) == line(state(clone.m)) {
			t.Errorf("%s changed nothing: the test itself is wrong", name)
		}
		b = tangled(t)
		clone = b.clone()
		call(clone.m)
		b.same("the model, after " + name + " of a clone")
	}
}

// Both go on from the same state, each its own way, with objects and pushes that would share memory if it were the same.
func TestCloneGoesOn(t *testing.T) {
	b := tangled(t)
	clone := b.clone()
	again := clone.clone()
	for i := range 20 {
		b.acts(0, create(i%16, api.Shape{Refs: 1, Data: 2}), put(i%16, 1, 1000+i))
		clone.acts(2, create(i%16, api.Shape{Refs: 3, Data: 1, Kind: api.Weak}), put(i%16, 0, 2000+i))
		b.push(b.m.Births())
		clone.push(1)
		b.acts(0, store(i%16, 0, 0), export(i%16, i%16))
		clone.acts(1, export(15, 15-i%16))
	}
	b.collect(b.clone().p.Collect())
	b.pop(4)
	b.pop(1)
	clone.pop(4)
	b.same("the model")
	clone.same("the clone")
	again.same("the clone of the clone")
}

func TestCloneOfNew(t *testing.T) {
	for mutators := 1; mutators <= api.MaxMutators; mutators++ {
		b := newBoth(t, mutators)
		clone := b.clone()
		clone.same("the clone of a new model")
		clone.acts(mutators-1, create(15, word), put(15, 0, 3), export(15, 0))
		clone.push(1)
		b.same("a new model")
		clone.same("the clone of a new model, with an object")
	}
}
