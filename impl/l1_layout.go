package impl

const (
	MaxSections = 60
	MaxCounters = 120
	MaxAxles    = 200
	MaxFar      = 1000000
)

// outside is the side of a counter that is no section.
const outside = -1

// Counter counts axles between two sections; -1 is outside.
type Counter struct {
	From int
	To   int
}

// Layout is sections, numbered, and the counters between them.
type Layout struct {
	Sections int
	Counters []Counter
}

// LayoutOk is 0 for a layout that is right, 1 for wrong numbers of sections or counters, 2 for a counter at wrong sides.
func LayoutOk(l Layout) int {
	if l.Sections < 1 || l.Sections > MaxSections || len(l.Counters) > MaxCounters {
		return 1
	}
	for _, c := range l.Counters {
		if !sideOk(l, c.From) || !sideOk(l, c.To) || c.From == c.To {
			return 2
		}
	}
	return 0
}

func sideOk(l Layout, side int) bool {
	return side == outside || sectionOk(l, side)
}

func sectionOk(l Layout, section int) bool {
	return section >= 0 && section < l.Sections
}

func counterOk(l Layout, counter int) bool {
	return counter >= 0 && counter < len(l.Counters)
}

// Around is the counters that stand at a section, in order.
func Around(l Layout, section int) []int {
	if LayoutOk(l) != 0 || !sectionOk(l, section) {
		return nil
	}
	return countersBySide(l)[section]
}

// countersBySide names a counter once at each of its sides: the two are never the same in a right layout.
func countersBySide(l Layout) map[int][]int {
	around := make(map[int][]int)
	for i, c := range l.Counters {
		around[c.From] = append(around[c.From], i)
		around[c.To] = append(around[c.To], i)
	}
	return around
}

// Post is a counter on a way, so far from its beginning, met from its From (Dir 1) or its To (Dir -1).
type Post struct {
	At      int
	Counter int
	Dir     int
}

// Event is one thing that happens.
type Event struct {
	Op  int
	Of  int
	Dir int
}

// Passing is the events of a train whose front goes from one place of a way to another.
func Passing(l Layout, posts []Post, axles []int, from, to int) []Event {
	if LayoutOk(l) != 0 || !postsOk(l, posts) || !axlesOk(axles) || !stretchOk(from, to) {
		return nil
	}
	var events []Event
	next := firstMeetings(posts, axles, from)
	for next.size() > 0 {
		m := next.pop()
		if m.front > to {
			break // every other one that waits is as far or farther
		}
		post := posts[m.post]
		events = append(events, Event{Op: OPass, Of: post.Counter, Dir: post.Dir})
		if m.post+1 < len(posts) {
			next.push(meet(posts, axles, m.axle, m.post+1))
		}
	}
	return events
}

func postsOk(l Layout, posts []Post) bool {
	if len(posts) > MaxCounters {
		return false
	}
	places := make([]int, 0, len(posts))
	for _, p := range posts {
		if !counterOk(l, p.Counter) || !dirOk(p.Dir) {
			return false
		}
		places = append(places, p.At)
	}
	return ascend(places)
}

func dirOk(dir int) bool {
	return dir == 1 || dir == -1
}

func axlesOk(axles []int) bool {
	return len(axles) <= MaxAxles && ascend(axles)
}

func stretchOk(from, to int) bool {
	return ascend([]int{from, to})
}

// ascend tells whether each place is as far as the one ahead of it or farther, and all are in 0 .. MaxFar.
func ascend(places []int) bool {
	least := 0
	for _, p := range places {
		if p < least || p > MaxFar {
			return false
		}
		least = p
	}
	return true
}

// meeting is an axle at a post, both by their number in their list, and where the front is then.
type meeting struct {
	front int
	axle  int
	post  int
}

func meet(posts []Post, axles []int, axle, post int) meeting {
	return meeting{front: posts[post].At + axles[axle], axle: axle, post: post}
}

// earlier need not ask for the posts: of each axle only one meeting waits at a time, and its posts come in order.
func earlier(a, b meeting) bool {
	if a.front != b.front {
		return a.front < b.front
	}
	return a.axle < b.axle
}

// firstMeetings holds, of each axle that still has a post to pass, the first one with the front beyond from.
func firstMeetings(posts []Post, axles []int, from int) *heap[meeting] {
	next := &heap[meeting]{before: earlier}
	for axle := range axles {
		for post := range posts {
			if m := meet(posts, axles, axle, post); m.front > from {
				next.push(m)
				break
			}
		}
	}
	return next
}

// heap gives its items back one by one, always one with no other before it.
type heap[T any] struct {
	items  []T
	before func(a, b T) bool
}

func (h *heap[T]) size() int {
	return len(h.items)
}

func (h *heap[T]) push(item T) {
	h.items = append(h.items, item)
	for child := len(h.items) - 1; child > 0; {
		parent := (child - 1) / 2
		if !h.before(h.items[child], h.items[parent]) {
			return
		}
		h.swap(child, parent)
		child = parent
	}
}

// pop is for a heap that is not empty.
func (h *heap[T]) pop() T {
	top := h.items[0]
	last := len(h.items) - 1
	h.swap(0, last)
	h.items = h.items[:last]
	for parent := 0; ; {
		child := h.firstOf(parent, 2*parent+1, 2*parent+2)
		if child == parent {
			return top
		}
		h.swap(child, parent)
		parent = child
	}
}

// firstOf is which of these three places has the item that comes first; a child may be none.
func (h *heap[T]) firstOf(parent, left, right int) int {
	first := parent
	if left < len(h.items) && h.before(h.items[left], h.items[first]) {
		first = left
	}
	if right < len(h.items) && h.before(h.items[right], h.items[first]) {
		first = right
	}
	return first
}

func (h *heap[T]) swap(a, b int) {
	h.items[a], h.items[b] = h.items[b], h.items[a]
}
