package profile

import (
	"maps"

	"tabard/api"
)

// inside is what a profile has.
type inside struct {
	entered table[int]
	jumped  table[api.Site]
	called  map[api.Site]receivers
}

// receivers is the classes of the objects that were seen at a site's call; it is mega, if there were more of them than are told apart.
type receivers struct {
	classes table[int]
	mega    bool
}

func newInside() *inside {
	return &inside{table[int]{}, table[api.Site]{}, map[api.Site]receivers{}}
}

func (x receivers) kind() int {
	switch {
	case x.mega:
		return api.CallMega
	case len(x.classes) == 0:
		return api.CallNone
	case len(x.classes) == 1:
		return api.CallMono
	}
	return api.CallPoly
}

func (x receivers) same(y receivers) bool {
	return x.mega == y.mega && maps.Equal(x.classes, y.classes)
}

// call counts n objects of a class at a site.
func (in *inside) call(s api.Site, class int, n int64) {
	x := in.called[s]
	if x.classes == nil {
		x.classes = table[int]{}
	}
	if _, is := x.classes[class]; is || len(x.classes) < api.MaxTypes {
		x.classes.add(class, n)
	} else {
		x.mega = true
	}
	in.called[s] = x
}

// join adds what another one has, which is not the same one.
func (in *inside) join(other *inside) {
	in.entered.join(other.entered)
	in.jumped.join(other.jumped)
	for s, x := range other.called {
		in.joinSite(s, x)
	}
}

// joinSite adds what another one has at a site; the classes come by their rank, as there may be no room for all of them.
func (in *inside) joinSite(s api.Site, other receivers) {
	for _, r := range ranked(other.classes, 1) {
		in.call(s, r.key, r.n)
	}
	x := in.called[s]
	x.mega = x.mega || other.mega
	in.called[s] = x
}

func (in *inside) forget(f int) {
	inMethod := func(s api.Site) bool { return s.Func == f }
	in.entered = without(in.entered, func(g int) bool { return g == f })
	in.jumped = without(in.jumped, inMethod)
	in.called = without(in.called, inMethod)
}

func (in *inside) clone() *inside {
	called := make(map[api.Site]receivers, len(in.called))
	for s, x := range in.called {
		called[s] = receivers{maps.Clone(x.classes), x.mega}
	}
	return &inside{maps.Clone(in.entered), maps.Clone(in.jumped), called}
}

func (in *inside) same(other *inside) bool {
	return maps.Equal(in.entered, other.entered) && maps.Equal(in.jumped, other.jumped) && maps.EqualFunc(in.called, other.called, receivers.same)
}
