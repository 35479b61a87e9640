package tests

import (
	"testing"

	"loop.example/gemel/impl"
)

func TestTextOfWhatWasSaid(t *testing.T) {
	for _, x := range []struct {
		said []impl.Val
		want string
	}{
		{nil, ""},
		{vals(none), "none;"},
		{vals(number(0)), "0;"},
		{vals(number(999), none, number(10)), "999;none;10;"},
		{vals(callVal(0), callVal(3), number(3)), "call 0;call 3;3;"},
		{vals(number(-4), callVal(-12)), "-4;call -12;"},
	} {
		if got := impl.SaidText(x.said); got != x.want {
			t.Errorf("%v: %q, not %q", x.said, got, x.want)
		}
	}
}
