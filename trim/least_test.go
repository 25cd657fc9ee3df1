package trim

import (
	"math"
	"slices"
	"testing"

	"ostiary/api"
	"ostiary/sample"
)

// leasts holds what Least tells against what it is to tell; what was handed in has to stay as it was, and what is behind it does not matter.
func leasts(t *testing.T, m api.Message, want int, is bool) {
	t.Helper()
	m, all := roomy(m)
	was := clone(all)
	if got, told := Least(m); got != want || told != is {
		t.Fatalf("Least(%s) = %d, %v, not %d, %v", brief(m), got, told, want, is)
	}
	if !same(all, was) {
		t.Fatalf("Least(%s) changed it", brief(m))
	}
}

// P10.2: the least TTL, wherever it stands.
func TestLeast(t *testing.T) {
	for _, c := range []struct {
		an, ns, ar []int
		want       int
	}{
		{[]int{5}, nil, nil, 5}, {nil, []int{5}, nil, 5}, {nil, nil, []int{5}, 5},
		{[]int{5, 9}, []int{7}, []int{8}, 5}, {[]int{9, 5}, []int{7}, []int{8}, 5}, {[]int{9}, []int{7, 5, 6}, []int{8}, 5}, {[]int{9}, []int{7}, []int{8, 6, 5}, 5},
		{[]int{3, 3}, []int{3}, []int{3, 3}, 3}, {[]int{4, 3}, nil, []int{3}, 3},
		{[]int{0}, []int{1}, []int{2}, 0}, {[]int{2}, []int{0}, []int{1}, 0}, {[]int{1}, []int{2}, []int{0, 0}, 0}, {[]int{0, 0}, nil, nil, 0},
		{[]int{1<<31 - 1}, nil, nil, 1<<31 - 1}, {[]int{1<<31 - 1}, []int{1<<31 - 2}, nil, 1<<31 - 2}, {nil, nil, []int{1 << 30, 1 << 29}, 1 << 29},
		{[]int{5}, []int{-1}, []int{0}, -1}, {[]int{math.MinInt}, []int{-1}, nil, math.MinInt}, {[]int{math.MaxInt}, nil, nil, math.MaxInt}, {nil, []int{math.MaxInt, math.MaxInt - 1}, nil, math.MaxInt - 1},
	} {
		var m api.Message
		for i, l := range [][]int{c.an, c.ns, c.ar} {
			for j, ttl := range l {
				*lists(&m)[i] = append(*lists(&m)[i], api.Rec{Name: "\x00", Type: []int{1, 999, 0, 40, 42, 255, 41 + 65536, -41}[j], TTL: ttl})
			}
		}
		leasts(t, m, c.want, true)
		m.ID, m.Flags, m.Q = -1, 1<<40, []api.Question{{Type: 41}, {}}
		leasts(t, m, c.want, true)
		// Records of TypeOPT have no TTL that counts, whatever they are, wherever they stand.
		for i := range 8 {
			for _, l := range lists(&m) {
				*l = slices.Insert(*l, []int{0, len(*l)}[i%2], api.Rec{Name: []string{"\x00", "bad"}[i/4], Type: 41, TTL: []int{0, -5, math.MinInt, 1, math.MaxInt}[i%5]})
			}
			leasts(t, m, c.want, true)
		}
	}
}

// P10.2: there is none, if there is no record, or none but such of TypeOPT.
func TestLeastNone(t *testing.T) {
	leasts(t, api.Message{}, 0, false)
	leasts(t, asking(), 0, false)
	leasts(t, api.Message{ID: -1, Flags: -1, Q: []api.Question{{}, question("\x00")}, An: []api.Rec{}, Ns: []api.Rec{}, Ar: []api.Rec{}}, 0, false)
	for kinds := range 8 {
		var m api.Message
		for i, l := range lists(&m) {
			if kinds>>i&1 == 1 {
				*l = []api.Rec{{Type: 41, TTL: 3}, {Name: "\x00", Type: 41, TTL: -3}}
			}
		}
		leasts(t, m, 0, false)
	}
}

// P10.2: messages of all kinds.
func TestLeastRandom(t *testing.T) {
	s := sample.New()
	for range 2000 {
		m := s.Message()
		for range s.Below(3) {
			m.Ar = slices.Insert(m.Ar, s.Below(len(m.Ar)+1), api.Rec{Type: 41, TTL: s.Below(9)})
		}
		var ttls []int
		for _, x := range slices.Concat(m.Ar, m.Ns, m.An) {
			if x.Type != 41 {
				ttls = append(ttls, x.TTL)
			}
		}
		slices.Sort(ttls)
		ttls = append(ttls, 0)
		leasts(t, m, ttls[0], len(ttls) > 1)
	}
}
