package layout

import (
	"slices"

	"tabard/api"
	"tabard/classfile"
	"tabard/desc"
	"tabard/hier"
)

// maker makes a layout: it reads the class files, and then goes down the hierarchy from its topmost class.
type maker struct {
	made    *Layout
	hier    *hier.Hier
	fields  [][]member // of each class, those that are not static
	methods [][]method // of each class, those that are not <init>
	// first has, of the methods of the class where it is and of those above, by each signature the topmost one: it stands for the nearest one, as all between are alike and have its slot. So no class has to ask all that stand above it.
	first map[signature]method
}

// member is what a class file says of a field or a method.
type member struct {
	signature
	static bool
}

// method is a member, and its number.
type method struct {
	member
	number int
}

// checkEach is the first error that a class file has for itself.
func checkEach(l []api.Class) api.Errno {
	for _, c := range l {
		if e := classfile.Check(c); e != api.OK {
			return e
		}
	}
	return api.OK
}

// areOf tells whether class files are those of a hierarchy's classes that are not built in.
func areOf(h *hier.Hier, l []api.Class) bool {
	if h.Len() != api.BuiltIn+len(l) {
		return false
	}
	for i, c := range l {
		n := api.BuiltIn + i
		this, _ := classfile.This(c)
		super, _ := classfile.Super(c)
		if this != h.Name(n) || super != h.Name(h.Super(n)) {
			return false
		}
	}
	return true
}

// begin is a maker that has the classes alone.
func begin(h *hier.Hier) *maker {
	classes := make([]class, h.Len())
	for n := range classes {
		classes[n].told = api.Klass{Name: h.Name(n), Super: h.Super(n)}
	}
	return &maker{
		made:    &Layout{classes: classes},
		hier:    h,
		fields:  make([][]member, h.Len()),
		methods: make([][]method, h.Len()),
		first:   map[signature]method{},
	}
}

// read takes what a class's file has, and gives out the numbers.
func (m *maker) read(n int, c api.Class) {
	own := &m.made.classes[n]
	own.fields = map[signature]api.Place{}
	for _, x := range members(c, c.Fields) {
		if x.static {
			own.fields[x.signature] = api.Place{Class: n, Static: true, N: len(m.made.statics), Type: x.kind()}
			m.made.statics = append(m.made.statics, x.kind())
		} else {
			m.fields[n] = append(m.fields[n], x)
		}
	}
	own.methods = map[signature]int{}
	for i, x := range members(c, c.Methods) {
		number := len(m.made.spots)
		own.methods[x.signature] = number
		m.made.spots = append(m.made.spots, api.Spot{Class: n, Method: i, Number: number})
		m.made.slots = append(m.made.slots, none)
		if x.name != initName {
			m.methods[n] = append(m.methods[n], method{x, number})
		}
	}
}

// members are what a class file that may be says of members.
func members(c api.Class, l []api.Member) []member {
	var all []member
	for _, m := range l {
		n, _ := classfile.Member(c, m)
		all = append(all, member{signature{n.Name, n.Desc}, m.Access&api.AccStatic != 0})
	}
	return all
}

// kind is the type of a field.
func (x member) kind() api.Type {
	t, _ := desc.Field(x.desc)
	return t
}

// lay lays out a class, and then those under it; false, if a method is static where the nearest one above it is not, or the other way round.
func (m *maker) lay(n int) bool {
	m.inherit(n)
	m.placeFields(n)
	for _, x := range m.methods[n] {
		if !m.placeMethod(n, x) {
			return false
		}
	}
	for _, sub := range m.hier.Subs(n) {
		if !m.lay(sub) {
			return false
		}
	}
	m.leave(n)
	return true
}

// inherit begins with what the objects and the table of the super have.
func (m *maker) inherit(n int) {
	own := &m.made.classes[n].told
	if own.Super != none {
		super := m.made.classes[own.Super].told
		own.Fields = slices.Clone(super.Fields)
		own.Table = slices.Clone(super.Table)
	}
}

func (m *maker) placeFields(n int) {
	own := &m.made.classes[n]
	for _, x := range m.fields[n] {
		own.fields[x.signature] = api.Place{Class: n, N: len(own.told.Fields), Type: x.kind()}
		own.told.Fields = append(own.told.Fields, x.kind())
	}
}

// placeMethod gives a method its slot, if it takes one; false, if it is not like those above it.
func (m *maker) placeMethod(n int, x method) bool {
	slot := none
	if above, is := m.first[x.signature]; !is {
		m.first[x.signature] = x
	} else if above.static != x.static {
		return false
	} else {
		slot = m.made.slots[above.number]
	}
	if !x.static {
		m.takeSlot(n, x.number, slot)
	}
	return true
}

// takeSlot puts a method into its class's table: to a slot, or, if that is none, behind the others.
func (m *maker) takeSlot(n, number, slot int) {
	own := &m.made.classes[n].told
	if slot == none {
		slot = len(own.Table)
		own.Table = append(own.Table, number)
	}
	own.Table[slot] = number
	m.made.slots[number] = slot
}

// leave forgets what a class has first, so that classes beside it don't see it.
func (m *maker) leave(n int) {
	for _, x := range m.methods[n] {
		if m.first[x.signature].number == x.number {
			delete(m.first, x.signature)
		}
	}
}
