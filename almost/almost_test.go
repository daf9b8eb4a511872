package almost_test

import (
	"slices"
	"testing"

	"weighbridge/almost"
)

func TestTexts(t *testing.T) {
	l := almost.Texts("ab")
	if len(l) != 3*(2+256)+2*(1+256) {
		t.Errorf("%d texts", len(l))
	}
	for _, s := range []string{"", "a", "b", "ab", "xab", "axb", "abx", "xb", "ax", "\x00b", "a\xff", "ab\x00", "aab", "abb"} {
		if !slices.Contains(l, s) {
			t.Errorf("%q is missing", s)
		}
	}
	for _, s := range l {
		if len(s) > 3 {
			t.Errorf("%q", s)
		}
	}
	if got := almost.Texts(""); len(got) != 2+256 || got[0] != "" || got[2] != "\x00" || got[257] != "\xff" {
		t.Errorf("Texts of nothing = %q", got)
	}
}
