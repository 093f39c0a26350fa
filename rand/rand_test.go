package rand_test

import (
	"slices"
	"testing"

	"regatta/api"
	"regatta/rand"
)

// P5.1: reckoned outside of the program, at the places 0, 1, -1 and both ends.
func TestWordByHand(t *testing.T) {
	places := [5]int{0, 1, -1, most, least}
	cases := []struct {
		k    api.Key
		want [5]uint64
	}{
		{api.Key{}, [5]uint64{7847317952900503123, 9313067364353037663, 15753728749572662220, 271204273346944021, 16191957069247653852}},
		{api.Key{Seed: 1}, [5]uint64{9226621831059054831, 16834110007079376108, 3364356076359987613, 7311543196769412347, 10194879200687314998}},
		{api.Key{Seed: ones}, [5]uint64{14278795171627992823, 7566321325740933571, 1712718408419248945, 8774214601547327221, 13533953529331789842}},
		{api.Key{A: 1}, [5]uint64{8507132892084514504, 3333835175366642148, 14966549685655800458, 4789797493017008035, 2913803290312270825}},
		{api.Key{B: 1}, [5]uint64{10189117910536082855, 8442179834320868307, 5108414193089211888, 5102925699930962435, 6581096038460790832}},
		{api.Key{C: 1}, [5]uint64{7552784471519748612, 3530207048010306540, 17039108749557505957, 7245247850297094440, 2748053714318265182}},
		{api.Key{Seed: 7, A: 1, B: 2, C: 3}, [5]uint64{14837689048070696817, 18411121326505267982, 16175595143863129729, 6754526877476850609, 18106907950425047542}},
		{api.Key{Seed: 7, A: 3, B: 2, C: 1}, [5]uint64{15947837481780564707, 1054465223358770369, 18324936904296464792, 582445694923849724, 14074399317323432746}},
		{api.Key{Seed: 7, A: -1, B: -2, C: -3}, [5]uint64{9846440373617872151, 18240514125057494466, 17383450620440172157, 7371225270724171625, 11872114082080284201}},
		{api.Key{A: most, B: least, C: most}, [5]uint64{8698370000494035465, 3187091034544849537, 4570834212604632401, 5416093776600960882, 8891118783699144549}},
		{api.Key{Seed: ones, A: least, B: most, C: least}, [5]uint64{5622203525899901338, 17503349882357518165, 17062518240681574089, 5871017051282900531, 1956097767915991857}},
		{api.Key{Seed: 1 << 63, A: -1, C: 1}, [5]uint64{8754192223766526566, 7739426273730039384, 1877114458261442404, 13118054940458191472, 9618061595126685183}},
	}
	for _, c := range cases {
		for n, i := range places {
			if got := rand.Word(c.k, i); got != c.want[n] {
				t.Errorf("Word(%v, %d) = %d, want %d", c.k, i, got, c.want[n])
			}
		}
	}
}

// P5.1
func TestWord(t *testing.T) {
	for _, k := range keys() {
		for _, i := range edgeInts() {
			if got, want := rand.Word(k, i), wordOf(k, i).Uint64(); got != want {
				t.Fatalf("Word(%v, %d) = %d, want %d", k, i, got, want)
			}
		}
	}
}

// P5.1: a word hangs on its key and its place, not on what was drawn ahead of it.
func TestWordsInAnyOrder(t *testing.T) {
	k, other := api.Key{Seed: 3, A: 1}, api.Key{Seed: 3, B: 1}
	var there []uint64
	for i := range 100 {
		there = append(there, rand.Word(k, i))
		rand.Word(other, i)
	}
	for i := 99; i >= 0; i-- {
		if got := rand.Word(k, i); got != there[i] {
			t.Fatalf("Word(%v, %d) = %d, and %d before", k, i, got, there[i])
		}
	}
}

// P5.2
func TestBelowByHand(t *testing.T) {
	k := api.Key{Seed: 7, A: 1, B: 2, C: 3}
	cases := []struct {
		n    int
		want []int
	}{
		{1, []int{0, 0, 0, 0, 0, 0}},
		{2, []int{1, 1, 1, 0, 1, 0}},
		{10, []int{8, 9, 5, 0, 8, 2}},
		{1000, []int{804, 998, 537, 93, 887, 254}},
		{65536, []int{52714, 65409, 35200, 6114, 58131, 16705}},
		{most, []int{7418844524035348407, 9205560663252633990, 4953986560830082348, 860545846867497963, 8181269751478492963, 2351073602077987134}},
	}
	for _, c := range cases {
		for i, want := range c.want {
			if got := rand.Below(k, i, c.n); got != want {
				t.Errorf("Below(%v, %d, %d) = %d, want %d", k, i, c.n, got, want)
			}
		}
	}
}

// P5.2
func TestBelow(t *testing.T) {
	for _, k := range keys() {
		for _, i := range []int{0, 1, -1, most, least} {
			for _, n := range edgeInts() {
				if got, want := rand.Below(k, i, n), belowOf(k, i, n); got != want {
					t.Fatalf("Below(%v, %d, %d) = %d, want %d", k, i, n, got, want)
				}
			}
		}
	}
}

// P5.2: with the least and the greatest word, and beside where one number turns into the next.
func TestBelowAtTheEnds(t *testing.T) {
	cases := []struct {
		w       uint64
		n, want int
	}{
		{0, 1, 0}, {ones, 1, 0}, {0, most, 0}, {ones, most, most - 1}, {1, most, 0}, {3, most, 1},
		{1<<63 - 1, 2, 0}, {1 << 63, 2, 1}, {ones, 2, 1}, {1 << 63, most, 1<<62 - 1},
		{ones / 3, 3, 0}, {ones/3 + 1, 3, 1}, {ones / 3 * 2, 3, 1}, {ones/3*2 + 1, 3, 2}, {ones, 3, 2},
		{0, 0, 0}, {ones, 0, 0}, {ones, -1, 0}, {ones, least, 0}, {0, least, 0}, {1 << 63, -2, 0},
	}
	for _, k := range keys() {
		for _, c := range cases {
			i := placeWith(k, c.w)
			if got := rand.Word(k, i); got != c.w {
				t.Fatalf("Word(%v, %d) = %d, want %d", k, i, got, c.w)
			}
			if got := rand.Below(k, i, c.n); got != c.want {
				t.Fatalf("Below of %d with the word %d = %d, want %d", c.n, c.w, got, c.want)
			}
		}
	}
}

// P5.3
func TestPart(t *testing.T) {
	for _, k := range keys() {
		for _, i := range edgeInts() {
			if got, want := rand.Part(k, i), partOf(k, i); got != want {
				t.Fatalf("Part(%v, %d) = %d, want %d", k, i, got, want)
			}
		}
	}
	k := api.Key{Seed: 7, A: 1, B: 2, C: 3}
	for i, want := range []api.Fix{3454668691, 4286673228, 2306879759, 400722886} {
		if got := rand.Part(k, i); got != want {
			t.Errorf("Part(%v, %d) = %d, want %d", k, i, got, want)
		}
	}
}

// P5.3
func TestPartAtTheEnds(t *testing.T) {
	cases := []struct {
		w    uint64
		want api.Fix
	}{
		{0, 0}, {1<<32 - 1, 0}, {1 << 32, 1}, {1 << 63, api.One / 2}, {1<<63 - 1, api.One/2 - 1},
		{ones, api.One - 1}, {ones - 1<<32, api.One - 2}, {ones - 1<<32 + 1, api.One - 1},
	}
	for _, k := range keys() {
		for _, c := range cases {
			if got := rand.Part(k, placeWith(k, c.w)); got != c.want {
				t.Fatalf("Part with the word %d = %d, want %d", c.w, got, c.want)
			}
		}
	}
}

// edgeFixes are numbers at which signs, steps and ends turn.
func edgeFixes() []api.Fix {
	return []api.Fix{
		0, 1, 2, 3, -1, -2, -3, api.One - 1, api.One, api.One + 1, -api.One, 1 << 62, -1 << 62, 1<<62 + 1,
		api.MaxFix - 1, api.MaxFix, api.MinFix, api.MinFix + 1,
	}
}

// P5.3
func TestBetweenByHand(t *testing.T) {
	k := api.Key{Seed: 7, A: 1, B: 2, C: 3}
	cases := []struct {
		low, high api.Fix
		want      [3]api.Fix
	}{
		{-api.One, api.One, [3]api.Fix{2614370086, 4278379160, 318792222}},
		{api.MinFix, api.MaxFix, [3]api.Fix{5614317009505353727, 9187749286043975679, 684601083854585855}},
		{0, 3, [3]api.Fix{2, 2, 1}},
		{-5, -1, [3]api.Fix{-2, -2, -3}},
		{api.MinFix, 0, [3]api.Fix{-1804527513674711040, -17811375405400064, -4269385476500094976}},
		{api.MaxFix - 9, api.MaxFix, [3]api.Fix{9223372036854775805, 9223372036854775806, 9223372036854775802}},
		{0, api.One, [3]api.Fix{3454668691, 4286673228, 2306879759}},
		{7, 7, [3]api.Fix{7, 7, 7}},
		{7, 8, [3]api.Fix{7, 7, 7}},
		{7, 6, [3]api.Fix{7, 7, 7}},
		{api.MaxFix, api.MinFix, [3]api.Fix{api.MaxFix, api.MaxFix, api.MaxFix}},
		{api.MinFix, api.MinFix, [3]api.Fix{api.MinFix, api.MinFix, api.MinFix}},
		{api.MinFix, api.MinFix + 1, [3]api.Fix{api.MinFix, api.MinFix, api.MinFix}},
		{api.MaxFix - 1, api.MaxFix, [3]api.Fix{api.MaxFix - 1, api.MaxFix - 1, api.MaxFix - 1}},
	}
	for _, c := range cases {
		for i, want := range c.want {
			if got := rand.Between(k, i, c.low, c.high); got != want {
				t.Errorf("Between(%v, %d, %d, %d) = %d, want %d", k, i, c.low, c.high, got, want)
			}
		}
	}
}

func checkBetween(t *testing.T, k api.Key, i int, part, low, high api.Fix) {
	t.Helper()
	got, want := rand.Between(k, i, low, high), betweenOf(part, low, high)
	if got != want || got < low || got >= high && high > low {
		t.Fatalf("Between(%v, %d, %d, %d) = %d, want %d", k, i, low, high, got, want)
	}
}

// P5.3
func TestBetween(t *testing.T) {
	for _, k := range keys() {
		for _, i := range []int{0, 1, -1, most, least} {
			part := partOf(k, i)
			for _, low := range edgeFixes() {
				for _, high := range edgeFixes() {
					checkBetween(t, k, i, part, low, high)
				}
			}
		}
	}
}

// P5.3: with the least and the greatest part, and those beside one half.
func TestBetweenAtTheEnds(t *testing.T) {
	k := api.Key{Seed: ones, A: least, B: -1, C: most}
	for _, part := range []api.Fix{0, 1, api.One/2 - 1, api.One / 2, api.One/2 + 1, api.One - 2, api.One - 1} {
		i := placeWith(k, uint64(part)<<32|1<<31)
		for _, low := range edgeFixes() {
			for _, high := range edgeFixes() {
				checkBetween(t, k, i, part, low, high)
			}
		}
	}
	top := placeWith(k, ones)
	if got := rand.Between(k, top, api.MinFix, api.MaxFix); got != api.MaxFix-1<<32 {
		t.Errorf("the greatest of all = %d", got)
	}
	if got := rand.Between(k, placeWith(k, 0), api.MinFix, api.MaxFix); got != api.MinFix {
		t.Errorf("the least of all = %d", got)
	}
}

// P5.4
func TestPermByHand(t *testing.T) {
	k := api.Key{Seed: 7, A: 1, B: 2, C: 3}
	cases := []struct {
		k    api.Key
		want []int
	}{
		{k, nil},
		{k, []int{0}},
		{k, []int{0, 1}},
		{k, []int{0, 2, 1}},
		{k, []int{3, 2, 1, 0, 4}},
		{k, []int{7, 2, 5, 8, 4, 1, 9, 3, 0, 6}},
		{k, []int{7, 13, 15, 8, 4, 1, 12, 3, 0, 11, 6, 10, 9, 2, 14, 5}},
		{api.Key{Seed: ones, A: least, B: most, C: least}, []int{0, 5, 2, 7, 3, 6, 1, 4, 8, 9}},
		{api.Key{}, []int{4, 6, 2, 0, 3, 1, 5}},
	}
	for _, c := range cases {
		if got, e := rand.Perm(c.k, len(c.want)); e != api.OK || !slices.Equal(got, c.want) {
			t.Errorf("Perm(%v, %d) = %v, %d, want %v", c.k, len(c.want), got, e, c.want)
		}
	}
}

// permOf is the order of the chapter's rule.
func permOf(k api.Key, n int) []int {
	order := rising(n)
	for i := n - 1; i >= 1; i-- {
		j := rand.Below(k, i, i+1)
		at := order[i]
		order[i] = order[j]
		order[j] = at
	}
	return order
}

// rising is 0 to n - 1.
func rising(n int) []int {
	var list []int
	for i := range n {
		list = append(list, i)
	}
	return list
}

// P5.4: as the rule says, and each number once.
func TestPerm(t *testing.T) {
	for _, k := range keys() {
		for _, n := range []int{0, 1, 2, 3, 4, 5, 63, 64, 65, 1000, api.MaxDim - 1, api.MaxDim} {
			if n > 1000 && k.A != 0 {
				continue
			}
			got, e := rand.Perm(k, n)
			if e != api.OK || !slices.Equal(got, permOf(k, n)) {
				t.Fatalf("Perm(%v, %d), %d: not in the rule's order", k, n, e)
			}
			slices.Sort(got)
			if !slices.Equal(got, rising(n)) {
				t.Fatalf("Perm(%v, %d): not each number once", k, n)
			}
		}
	}
}

// P5.4
func TestPermIsRefused(t *testing.T) {
	for _, k := range keys() {
		for _, n := range []int{-1, -2, least, api.MaxDim + 1, 2 * api.MaxDim, most} {
			if got, e := rand.Perm(k, n); e != api.ErrArg || len(got) != 0 {
				t.Fatalf("Perm(%v, %d) = %d numbers, %d", k, n, len(got), e)
			}
		}
	}
}

// P5.4: what is handed out is new memory, spare room too.
func TestPermIsNewMemory(t *testing.T) {
	k := api.Key{Seed: 5}
	first, _ := rand.Perm(k, 100)
	want := slices.Clone(first)
	for i := range first[:cap(first)] {
		first[:cap(first)][i] = -1
	}
	if again, e := rand.Perm(k, 100); e != api.OK || !slices.Equal(again, want) {
		t.Fatalf("asked again: %v, %d, want %v", again, e, want)
	}
}
