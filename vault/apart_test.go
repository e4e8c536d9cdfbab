package vault_test

import (
	"fmt"
	"math/rand"
	"slices"
	"strings"
	"testing"

	"vault/api"
	"vault/vault"
)

// pair: two parts that share nothing, each with its code, and what stands ahead of both.
func pair(r *rand.Rand, a, b func(role int) string) (string, *part, *part) {
	nums := r.Perm(8)[:4]
	return head(r, 2, nums), newPart(r, 0, nums[:2], a), newPart(r, 1, nums[2:], b)
}

// TestApart: each part of a system goes on as it would alone.
func TestApart(t *testing.T) {
	r := rand.New(rand.NewSource(1))
	seen := map[string]int{}
	for n := range 45 {
		top, a, b := pair(r, anyCode(r, n), anyCode(r, n/3))
		one, two, both := boot(t, top+a.text.String()), boot(t, top+b.text.String()), boot(t, top+a.text.String()+b.text.String())
		if r.Intn(2) == 0 {
			both = boot(t, top+b.text.String()+a.text.String())
		}
		for range 60 {
			ticks := 1 + r.Intn(25)
			for range ticks {
				one.Tick()
				two.Tick()
				did := both.Tick()
				seen[fmt.Sprint(did.Call, did.Err)]++
			}
			happens(r, a.nums, one, both)
			happens(r, b.nums, two, both)
			for _, x := range []struct {
				p *part
				s *vault.System
			}{{a, one}, {b, two}} {
				if v, want := x.p.view(t, both), x.p.view(t, x.s); v != want {
					t.Fatalf("system %d, behind %d ticks, part %s: %s", n, both.Ticks(), x.p.name, differ(v, want))
				}
			}
		}
	}
	for call := 1; call <= api.LastCall; call++ {
		if seen[fmt.Sprint(call, api.OK)] == 0 {
			t.Errorf("call %d was never done", call)
		}
	}
}

// differ: the first lines in which two texts are not the same.
func differ(a, b string) string {
	l, m := strings.Split(a, "\n"), strings.Split(b, "\n")
	for i := range min(len(l), len(m)) {
		if l[i] != m[i] {
			return fmt.Sprintf("line %d is %q, and not %q", i, l[i], m[i])
		}
	}
	return fmt.Sprintf("%d lines, and not %d", len(l), len(m))
}

// glass: what is told of all but the pages of frames, tables and roots.
func glass(v string) string {
	l := slices.DeleteFunc(strings.Split(v, "\n"), func(line string) bool {
		return strings.HasPrefix(line, "page ") || strings.HasPrefix(line, "  ")
	})
	return strings.Join(l, "\n")
}

// glassVa is where a part that may look at frames of another finds them, one behind the other.
const glassVa = 0x10000

// mayLook: part b may read frames of part a: by capabilities that come from a's, or from nowhere.
func mayLook(r *rand.Rand, a, b *part) {
	for j := range threads {
		for i, x := range []struct {
			frame       string
			owner, slot int
		}{{"d%s1", 1, 13}, {"d%s0", 0, 13}, {"c%s0", 0, 12}, {"s%s", 0, 5}} {
			from := ""
			if r.Intn(2) == 0 {
				from = fmt.Sprintf(" from x%s%d %d", a.name, x.owner, x.slot)
			}
			b.put("cap x@%d %d "+x.frame+" r"+from, j, 28+i, a.name)
			b.put("map x@%d %d r@%d %d r", j, 28+i, j, glassVa+i*api.PageLen)
		}
	}
}

// TestGlass: who may but look leaves no trace.
func TestGlass(t *testing.T) {
	r := rand.New(rand.NewSource(2))
	read := 0
	for n := range 40 {
		top, a, b := pair(r, anyCode(r, n), plays(r, true))
		mayLook(r, a, b)
		one, both := boot(t, top+a.text.String()), boot(t, top+a.text.String()+b.text.String())
		for range 60 {
			for range 1 + r.Intn(25) {
				one.Tick()
				both.Tick()
			}
			happens(r, a.nums, one, both)
			happens(r, b.nums, both)
			if v, want := glass(a.view(t, both)), glass(a.view(t, one)); v != want {
				t.Fatalf("system %d, behind %d ticks: %s", n, both.Ticks(), differ(v, want))
			}
			for _, h := range both.Threads() {
				if h.Num >= b.page && h.Context.Regs[23] != 0 {
					read++
				}
			}
		}
	}
	if read < 100 {
		t.Errorf("what was written was read %d times", read)
	}
}
