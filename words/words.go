// Package words holds what runs of all kinds have: words that are 0 at first, and numbers to read and told.
package words

// Memory keeps words in pages, of which there are those that were written into: arrays may have far more words than a run ever touches.
type Memory map[int]*page

// size is how many words a page has.
const size = 512

type page [size]int

// Get is the word of a number from 0 on.
func (m Memory) Get(at int) int {
	p := m[at/size]
	if p == nil {
		return 0
	}
	return p[at%size]
}

// Put changes it.
func (m Memory) Put(at, v int) {
	p := m[at/size]
	if p == nil {
		p = &page{}
		m[at/size] = p
	}
	p[at%size] = v
}

// Tape is what may be read, and what was told.
type Tape struct{ In, Out []int }

// Read is the next number that may be read, -1, if there is none.
func (t *Tape) Read() int {
	if len(t.In) == 0 {
		return -1
	}
	n := t.In[0]
	t.In = t.In[1:]
	return n
}

// Tell tells a number.
func (t *Tape) Tell(n int) { t.Out = append(t.Out, n) }

// Span is where an array's words stand.
type Span struct{ Base, Size int }

// Spans are where arrays of these sizes stand, one behind the other.
func Spans(sizes []int) []Span {
	var out []Span
	base := 0
	for _, n := range sizes {
		out = append(out, Span{base, n})
		base += n
	}
	return out
}

// Place is the number of an array's word; false: it has no such word.
func (s Span) Place(at int) (int, bool) {
	if at < 0 || at >= s.Size {
		return 0, false
	}
	return s.Base + at, true
}
