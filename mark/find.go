package mark

import (
	"slices"
)

// place is where a secret stands in a text.
type place struct {
	begin, end int
}

// edge leads from a node by a byte.
type edge struct {
	node int
	by   byte
}

// node is what some secrets end with.
type node struct {
	// The node of the most bytes, but fewer, that its bytes begin with.
	back int
	// How many bytes the longest secret has that its bytes begin with; 0 of none.
	long int
}

// finder finds secrets in a text. It reads both from their ends: then the longest one that begins in a place is known when that place is read, and no byte is read again, however many secrets there are, and however alike. (A tree of Aho and Corasick.)
type finder struct {
	nodes []node
	next  map[edge]int
}

// finderOf is a finder for the secrets that have room in a text.
func finderOf(text string, secrets []string) *finder {
	f := &finder{nodes: make([]node, 1), next: make(map[edge]int)}
	left := slices.DeleteFunc(slices.Clone(secrets), func(s string) bool {
		return len(s) < shortest || len(s) > len(text)
	})
	slices.SortFunc(left, func(a, b string) int { return len(b) - len(a) })
	// All of them at once, a byte of each: a new node leads back to one with fewer bytes, which is there by then.
	at := make([]int, len(left))
	for read := 1; len(left) > 0; read++ {
		for i, s := range left {
			at[i] = f.grow(at[i], s[len(s)-read])
		}
		for len(left) > 0 && len(left[len(left)-1]) == read {
			left = left[:len(left)-1]
			f.nodes[at[len(left)]].long = read
		}
	}
	return f
}

// grow is the node to which a byte leads, be it there or new.
func (f *finder) grow(from int, by byte) int {
	if to, ok := f.next[edge{from, by}]; ok {
		return to
	}
	back := 0
	if from != 0 {
		back = f.follow(f.nodes[from].back, by)
	}
	f.nodes = append(f.nodes, node{back: back, long: f.nodes[back].long})
	f.next[edge{from, by}] = len(f.nodes) - 1
	return len(f.nodes) - 1
}

// follow is the node of the most bytes that those of a node, with one more ahead, begin with.
func (f *finder) follow(from int, by byte) int {
	for {
		if to, ok := f.next[edge{from, by}]; ok {
			return to
		}
		if from == 0 {
			return 0
		}
		from = f.nodes[from].back
	}
}

// places is of each place of a text in which a secret begins the longest one, from the left to the right.
func (f *finder) places(text string) []place {
	var l []place
	at := 0
	for i := len(text) - 1; i >= 0; i-- {
		at = f.follow(at, text[i])
		if long := f.nodes[at].long; long > 0 {
			l = append(l, place{i, i + long})
		}
	}
	slices.Reverse(l)
	return l
}
