package status

import (
	"crypto/sha256"
	"encoding/hex"
	"math"
	"strings"
	"testing"

	"scantling/api"
)

// TestOf: P17.1.
func TestOf(t *testing.T) {
	if Of(nil) != "" || Of([]api.Entry{}) != "" {
		t.Error("of none")
	}
	word := func(s string) string {
		h := sha256.Sum256([]byte(s))
		return hex.EncodeToString(h[:])
	}
	a := "ab" + strings.Repeat("0", 60) + "01"
	z := strings.Repeat("0", 64)
	for want, l := range map[string][]api.Entry{
		a + ":5:":                               {{Height: 5, Tx: api.Hash{1, 31: 0xab}}},
		a + ":5:" + z + ":-12:":                 {{Height: 5, Tx: api.Hash{1, 31: 0xab}}, {Height: -12}},
		z + ":0:" + a + ":9223372036854775807:": {{}, {Height: math.MaxInt, Tx: api.Hash{1, 31: 0xab}}},
		z + ":-9223372036854775808:":            {{Height: math.MinInt}},
	} {
		if Of(l) != word(want) {
			t.Error("Of", want)
		}
	}
}

// TestRight: P17.2.
func TestRight(t *testing.T) {
	a, b, c := api.Hash{1}, api.Hash{2}, api.Hash{3}
	for i, x := range []struct {
		l    []api.Entry
		want bool
	}{
		{nil, true}, {[]api.Entry{{Height: 1, Tx: a}, {Height: 1, Tx: b}, {Height: 3, Tx: c}}, true}, {[]api.Entry{{Height: 2, Tx: a}, {Height: 1, Tx: b}}, false}, {[]api.Entry{{Height: 1, Tx: a}, {Height: 2, Tx: a}}, false},
		{[]api.Entry{{Height: 1, Tx: a}, {Height: 2, Tx: b}, {Height: 3, Tx: a}}, false}, {[]api.Entry{{Height: 0, Tx: a}}, false}, {[]api.Entry{{Height: -1, Tx: a}}, false}, {[]api.Entry{{Height: math.MaxInt}}, true}, {[]api.Entry{{Height: 1}, {Height: 1}}, false},
	} {
		if Right(x.l) != x.want {
			t.Error("Right", i)
		}
	}
}
