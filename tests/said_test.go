package tests

import (
	"math/rand"
	"slices"
	"testing"

	"loop.example/gemel/impl"
)

func TestTextOfWhatWasSaid(t *testing.T) {
	for _, x := range []struct {
		said []impl.Val
		want string
	}{
		{nil, ""},
		{vals(none), "none;"},
		{vals(number(0)), "0;"},
		{vals(number(999), none, number(10)), "999;none;10;"},
		{vals(callVal(0), callVal(3), number(3)), "call 0;call 3;3;"},
		{vals(number(-4), callVal(-12)), "-4;call -12;"},
	} {
		if got := impl.SaidText(x.said); got != x.want {
			t.Errorf("%v: %q, not %q", x.said, got, x.want)
		}
	}
}

// P96. SaidText is that of both parts; empty just if nothing was said.
func TestTextOfBothParts(t *testing.T) {
	t.Parallel()
	ask := func(said []impl.Val) {
		t.Helper()
		text := impl.SaidText(said)
		if (text == "") != (len(said) == 0) {
			t.Fatalf("%v: %q", said, text)
		}
		for cut := 0; cut <= len(said); cut++ {
			if parts := impl.SaidText(said[:cut]) + impl.SaidText(said[cut:]); parts != text {
				t.Fatalf("%v, cut at %d: %q, not %q", said, cut, parts, text)
			}
		}
	}
	ask(nil)
	ask(vals())
	// Values of no kind, and numbers that none has, are said by no program; they are written all the same.
	for kind := -2; kind <= 4; kind++ {
		for _, n := range []int{-1000, -1, 0, 1, 999, 1000, 5000} {
			odd := impl.Val{Kind: kind, Num: n}
			ask(vals(odd))
			ask(vals(odd, odd, number(3), odd))
		}
	}
	r := rand.New(rand.NewSource(15))
	for range 3000 {
		var said []impl.Val
		for range r.Intn(12) {
			said = append(said, randomVal(r, 4))
		}
		ask(said)
	}
	eachHeap(func(_ impl.Prog, h impl.Heap, steps int) {
		if steps%9 == 0 {
			ask(h.Said)
		}
	})
}

// saidLists are many lists of what is said, some of which are the same.
func saidLists() [][]impl.Val {
	one := vals(none, callVal(0), callVal(1), callVal(2), callVal(3))
	for _, n := range []int{0, 1, 2, 3, 9, 10, 11, 12, 19, 21, 99, 100, 101, 110, 111, 121, 211, 998, 999} {
		one = append(one, number(n))
	}
	out := [][]impl.Val{nil}
	for _, a := range one {
		out = append(out, vals(a))
		for _, b := range one {
			out = append(out, vals(a, b))
			for _, c := range one[:12] {
				out = append(out, vals(a, b, c))
			}
		}
	}
	for n := range 1000 {
		out = append(out, vals(number(n)), vals(number(n/10), number(n%10)))
	}
	eachHeap(func(_ impl.Prog, h impl.Heap, _ int) { out = append(out, h.Said) })
	for _, x := range oddHeaps() {
		out = append(out, x.heaps[0].Said)
	}
	return out
}

// P97. Of ok heaps the same was said just if SaidText is the same.
func TestTextsOfOkHeaps(t *testing.T) {
	t.Parallel()
	p := impl.Prog{Methods: make([]impl.Method, 4)}
	texts, again := map[string][]impl.Val{}, 0
	for _, said := range saidLists() {
		h := newHeap(t, p)
		if h.Said = said; !impl.HeapOk(p, h) {
			t.Fatalf("%v is not ok", said)
		}
		text := impl.SaidText(slices.Clone(said))
		other, met := texts[text]
		if met && !slices.Equal(other, said) {
			t.Fatalf("%q: %v, and %v", text, other, said)
		}
		if text != impl.SaidText(said) {
			t.Fatalf("%v: %q, then another", said, text)
		}
		texts[text], again = said, counted(again, met)
	}
	if len(texts) < 5000 || again < 1000 {
		t.Errorf("only %d texts, %d of them again", len(texts), again)
	}
}
