package words_test

import (
	"testing"

	"counterproof/words"
)

func TestMemory(t *testing.T) {
	m := words.Memory{}
	for _, at := range []int{0, 511, 512, 1 << 40} {
		if m.Get(at) != 0 {
			t.Error(at)
		}
		m.Put(at, at+1)
	}
	if m.Get(0) != 1 || m.Get(511) != 512 || m.Get(512) != 513 || m.Get(1<<40) != 1<<40+1 || m.Get(1) != 0 || len(m) != 3 {
		t.Error("memory")
	}
}

func TestTape(t *testing.T) {
	in := []int{4, 5}
	x := words.Tape{In: in}
	if x.Read() != 4 || x.Read() != 5 || x.Read() != -1 || in[0] != 4 {
		t.Error("read")
	}
	x.Tell(3)
	if len(x.Out) != 1 || x.Out[0] != 3 {
		t.Error("tell")
	}
}

func TestSpans(t *testing.T) {
	s := words.Spans([]int{3, 2})
	if at, ok := s[1].Place(1); at != 4 || !ok || s[0] != (words.Span{0, 3}) {
		t.Error(s)
	}
	for _, at := range []int{-1, 2, 1 << 62} {
		if n, ok := s[1].Place(at); n != 0 || ok {
			t.Error(at)
		}
	}
}
