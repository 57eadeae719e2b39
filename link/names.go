package link

import (
	"slices"
	"strings"

	"playpen/api"
)

// seat is where a label stands: the number of its object, its section, its place there. Its value is known when all objects are.
type seat struct {
	object int
	in     api.Section
	at     uint32
}

func seatOf(object int, label api.Label) seat {
	return seat{object: object, in: label.In, at: label.At}
}

// seats are labels by their names.
type seats map[string]seat

// addOpen takes the open labels of an object in, and tells whether all their names are new.
func (s seats) addOpen(object int, labels []api.Label) bool {
	allNew := true
	for _, label := range labels {
		if !label.Open {
			continue
		}
		if _, is := s[label.Name]; is {
			allNew = false
		}
		s[label.Name] = seatOf(object, label)
	}
	return allNew
}

// scope is what an object sees: its own labels, and those of all objects that are open.
type scope struct {
	own  seats
	open seats
}

func scopeOf(number int, object api.Object, open seats) scope {
	own := seats{}
	for _, label := range object.Labels {
		own[label.Name] = seatOf(number, label)
	}
	return scope{own: own, open: open}
}

// meant gives the label that a name means; false, if it means none.
func (s scope) meant(name string) (seat, bool) {
	if at, is := s.own[name]; is {
		return at, true
	}
	at, is := s.open[name]
	return at, is
}

// lacks are names that mean no label.
type lacks map[string]struct{}

// addFrom takes those names in that an object wants and that mean no label to it.
func (l lacks) addFrom(object api.Object, s scope) {
	for _, name := range wanted(object) {
		if _, is := s.meant(name); !is {
			l[name] = struct{}{}
		}
	}
}

// wanted gives all names by which an object asks for labels.
func wanted(object api.Object) []string {
	var names []string
	for _, fix := range object.Fixes {
		names = append(names, fix.Name)
	}
	names = append(names, object.Targets...)
	for _, entry := range object.Entries {
		names = append(names, entry.Label)
	}
	return names
}

// rising gives the names sorted, since a map goes through them in any order.
func (l lacks) rising() []string {
	var names []string
	for name := range l {
		names = append(names, strings.Clone(name))
	}
	slices.Sort(names)
	return names
}
