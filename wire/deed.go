package wire

import (
	"reveille/api"
	"reveille/pack"
)

// act is what is done to a thing; may asks whether it may be.
type act[T any] func(x *T, may func(x T) bool)

// deed is what is done to the fields of a message: by what they are.
type deed struct {
	number act[int]
	text   act[string]
	list   act[[]api.Label]
}

// asking unsets sound where a field may not be.
func asking(sound *bool) deed {
	return deed{number: ask[int](sound), text: ask[string](sound), list: ask[[]api.Label](sound)}
}

// emptying makes fields zero.
func emptying() deed {
	return deed{number: fill(none[int]), text: fill(none[string]), list: fill(none[[]api.Label])}
}

// putting packs fields.
func putting(p *pack.Packer) deed {
	return deed{number: give(p.Int), text: give(p.Text), list: give(func(l []api.Label) { pack.PutList(p, l, putLabel) })}
}

// taking reads fields.
func taking(r *pack.Reader) deed {
	return deed{number: fill(r.Int), text: fill(r.Text), list: fill(func() []api.Label { return pack.GetList(r, takeLabel) })}
}

func ask[T any](sound *bool) act[T] {
	return func(x *T, may func(x T) bool) { *sound = *sound && may(*x) }
}

func give[T any](to func(x T)) act[T] {
	return func(x *T, _ func(x T) bool) { to(*x) }
}

func fill[T any](from func() T) act[T] {
	return func(x *T, _ func(x T) bool) { *x = from() }
}

func none[T any]() T {
	var x T
	return x
}

func putLabel(p *pack.Packer, l api.Label) {
	p.Text(l.Key)
	p.Text(l.Value)
}

func takeLabel(r *pack.Reader) api.Label {
	key := r.Text()
	return api.Label{Key: key, Value: r.Text()}
}
