package hier

import (
	"cmp"
	"slices"

	"tabard/api"
)

// builtIn is the classes that every hierarchy has, by their numbers. The super of java/lang/Object is never looked for: a class may have the empty name.
func builtIn() []api.Line {
	return []api.Line{
		api.ClObject:    {Name: "java/lang/Object", Super: ""},
		api.ClThrowable: {Name: "java/lang/Throwable", Super: "java/lang/Object"},
		api.ClArith:     {Name: "java/lang/ArithmeticException", Super: "java/lang/Throwable"},
		api.ClNull:      {Name: "java/lang/NullPointerException", Super: "java/lang/Throwable"},
		api.ClIndex:     {Name: "java/lang/ArrayIndexOutOfBoundsException", Super: "java/lang/Throwable"},
		api.ClNegative:  {Name: "java/lang/NegativeArraySizeException", Super: "java/lang/Throwable"},
		api.ClCast:      {Name: "java/lang/ClassCastException", Super: "java/lang/Throwable"},
		api.ClStore:     {Name: "java/lang/ArrayStoreException", Super: "java/lang/Throwable"},
	}
}

// nameAll gives the classes their names and numbers; false, if two have the same name. No super is looked for ahead of that, as one may be the name of a later class.
func (h *Hier) nameAll(lines []api.Line) bool {
	for n, x := range lines {
		if _, is := h.numbers[x.Name]; is {
			return false
		}
		h.numbers[x.Name] = n
		h.classes = append(h.classes, class{name: x.Name, super: none})
	}
	return true
}

// hangAll hangs each class but the topmost one under its super; false, if there is no such class.
func (h *Hier) hangAll(lines []api.Line) bool {
	for n, x := range lines {
		if n == api.ClObject {
			continue
		}
		super, is := h.numbers[x.Super]
		if !is {
			return false
		}
		h.classes[n].super = super
		h.classes[super].subs = append(h.classes[super].subs, n)
	}
	return true
}

// orderAll goes down from the topmost class, and so finds depths and the order; false, if it has not come to all: each of the others stands on a ring, or under one.
func (h *Hier) orderAll() bool {
	h.order = append(h.order, api.ClObject)
	for i := 0; i < len(h.order); i++ {
		n := h.order[i]
		for _, sub := range h.classes[n].subs {
			h.classes[sub].depth = h.classes[n].depth + 1
		}
		h.order = append(h.order, h.classes[n].subs...)
	}
	slices.SortFunc(h.order, func(a, b int) int {
		return cmp.Or(cmp.Compare(h.classes[a].depth, h.classes[b].depth), cmp.Compare(a, b))
	})
	return len(h.order) == len(h.classes)
}
