package digest_test

import (
	"crypto/sha256"
	"encoding/hex"
	"fmt"
	"math"
	"math/bits"
	"math/rand"
	"slices"
	"strings"
	"testing"

	"latecomer/api"
	"latecomer/digest"
)

// The functions of this block follow the definitions in another way than the package does: with crypto/sha256, and with loops.

func sum(s string) string {
	d := sha256.Sum256([]byte(s))
	return string(d[:])
}

func leaf(s string) string       { return sum("\x00" + s) }
func node(a, b string) string    { return sum("\x01" + a + b) }
func chain(h, rec string) string { return sum("\x02" + h + rec) }

// root keeps the roots of the complete trees, the greatest one first, and joins two of equal size at once.
func root(l []string) string {
	if len(l) == 0 {
		return sum("")
	}
	var tops []string
	join := func() {
		n := len(tops)
		tops = append(tops[:n-2], node(tops[n-2], tops[n-1]))
	}
	for i, s := range l {
		tops = append(tops, leaf(s))
		for n := i; n%2 == 1; n /= 2 {
			join()
		}
	}
	for len(tops) > 1 {
		join()
	}
	return tops[0]
}

// half returns the greatest power of two that is less than n.
func half(n int) int {
	k := 1
	for k <= (n-1)/2 {
		k *= 2
	}
	return k
}

func proof(l []string, i int) []string {
	var p []string
	for len(l) > 1 {
		k := half(len(l))
		if i < k {
			l, p = l[:k], append(p, root(l[k:]))
		} else {
			l, p, i = l[k:], append(p, root(l[:k])), i-k
		}
	}
	slices.Reverse(p)
	return p
}

func extension(l []string, m int) []string {
	if m == 0 {
		return nil
	}
	var p []string
	whole := true
	for m < len(l) {
		k := half(len(l))
		if m <= k {
			l, p = l[:k], append(p, root(l[k:]))
		} else {
			l, p, m, whole = l[k:], append(p, root(l[:k])), m-k, false
		}
	}
	if !whole {
		p = append(p, root(l))
	}
	slices.Reverse(p)
	return p
}

func areDigests(l []string) bool {
	return !slices.ContainsFunc(l, func(s string) bool { return len(s) != 32 })
}

// climb returns the root that is reached from v with the elements of p; second says, from the root down, on which side it is.
func climb(v string, p []string, second []bool) string {
	for j, x := range p {
		if second[len(p)-1-j] {
			v = node(x, v)
		} else {
			v = node(v, x)
		}
	}
	return v
}

// rootOf returns the root that p leads to from the entry s, and whether p has the right length.
func rootOf(n, i int, s string, p []string) (string, bool) {
	var second []bool
	for n > 1 {
		k := half(n)
		second = append(second, i >= k)
		if i < k {
			n = k
		} else {
			n, i = n-k, i-k
		}
	}
	if len(p) != len(second) {
		return "", false
	}
	return climb(leaf(s), p, second), true
}

func verify(r string, n, i int, s string, p []string) bool {
	if i < 0 || i >= n || !areDigests(p) {
		return false
	}
	v, ok := rootOf(n, i, s, p)
	return ok && v == r
}

// rootsOf returns the two values of m, n and p, and whether p has the right length.
func rootsOf(old string, m, n int, p []string) (string, string, bool) {
	var second []bool
	whole := true
	for m < n {
		k := half(n)
		second = append(second, m > k)
		if m <= k {
			n = k
		} else {
			m, n, whole = m-k, n-k, false
		}
	}
	if !whole {
		if len(p) == 0 {
			return "", "", false
		}
		old, p = p[0], p[1:]
	}
	if len(p) != len(second) {
		return "", "", false
	}
	before := old
	for j, x := range p {
		if second[len(p)-1-j] {
			before = node(x, before)
		}
	}
	return before, climb(old, p, second), true
}

func verifyExtension(old string, m int, r string, n int, p []string) bool {
	if m < 0 || m > n || len(old) != 32 || len(r) != 32 || !areDigests(p) {
		return false
	}
	if m == 0 {
		return len(p) == 0 && old == sum("")
	}
	before, after, ok := rootsOf(old, m, n, p)
	return ok && before == old && after == r
}

// entries returns n different entries of different lengths, one of them empty.
func entries(n int) []string {
	var l []string
	for i := range n {
		l = append(l, strings.Repeat(fmt.Sprint(i), (i+2)%7*(i%3)))
		if slices.Contains(l[:i], l[i]) {
			l[i] = fmt.Sprint("entry ", i)
		}
	}
	return l
}

// sizes are those of all small trees, and of some on both sides of a power of two.
func sizes() []int {
	var l []int
	for n := range 71 {
		l = append(l, n)
	}
	return append(l, 100, 127, 128, 129, 255, 256, 257)
}

// places are indices into a list with n entries: all of them, or those near the powers of two and the ends if there are many.
func places(n int) []int {
	var l []int
	for i := range n {
		if n <= 71 || bits.OnesCount(uint(i)) <= 1 || bits.OnesCount(uint(i+1)) <= 1 || i >= n-3 {
			l = append(l, i)
		}
	}
	return l
}

func randomText(random *rand.Rand, n int) string {
	b := make([]byte, n)
	random.Read(b)
	return string(b)
}

func fromHex(t *testing.T, s string) string {
	t.Helper()
	b, err := hex.DecodeString(s)
	if err != nil {
		t.Fatal(err)
	}
	return string(b)
}

func same(a, b []string) bool { return slices.Equal(a, b) }

// copyOf returns a copy of l, so that it can be changed.
func copyOf(l []string) []string { return append([]string(nil), l...) }

// changeBit returns s with one inverted bit.
func changeBit(s string, bit int) string {
	b := []byte(s)
	b[bit/8] ^= 1 << (bit % 8)
	return string(b)
}

func TestSum(t *testing.T) { // P2.1
	for s, want := range map[string]string{
		"":    "e3b0c44298fc1c149afbf4c8996fb92427ae41e4649b934ca495991b7852b855",
		"abc": "ba7816bf8f01cfea414140de5dae2223b00361a396177a9cb410ff61f20015ad",
		"abcdbcdecdefdefgefghfghighijhijkijkljklmklmnlmnomnopnopq": "248d6a61d20638b8e5c026930c3e6039a33ce45964ff2167f6ecedd419db06c1",
		strings.Repeat("a", 1000000):                               "cdc76e5c9914fb9281a1c7e284d73e67f1809a48a497200e046d39ccc7112cd0",
	} {
		if got := digest.Sum(s); got != fromHex(t, want) {
			t.Errorf("Sum(%.60s) = %x, want %s", s, got, want)
		}
	}
	random := rand.New(rand.NewSource(1))
	lengths := []int{1000, 4095, 4096, 4097, 1<<20 + 7}
	for n := range 400 {
		lengths = append(lengths, n)
	}
	for _, n := range lengths {
		s := randomText(random, n)
		if got := digest.Sum(s); got != sum(s) {
			t.Errorf("Sum of %d bytes = %x, want %x", n, got, sum(s))
		}
	}
	for i := range 256 {
		s := string([]byte{byte(i)})
		if digest.Sum(s) != sum(s) {
			t.Errorf("Sum(%x) = %x", s, digest.Sum(s))
		}
	}
}

func TestSumOfParts(t *testing.T) { // P2.1: Chain, Leaf and Node
	if got, want := digest.Leaf("abc"), fromHex(t, "609f6e36d2405585188d5cfd761f407c7cc46a7d3f314c88270469dde315fcd1"); got != want {
		t.Errorf("Leaf(abc) = %x, want %x", got, want)
	}
	random := rand.New(rand.NewSource(2))
	lengths := []int{0, 1, 2, 22, 23, 31, 32, 33, 54, 55, 56, 61, 62, 63, 64, 65, 118, 119, 120, 126, 127, 128, 129, 300, api.MaxString + 1}
	for _, n := range lengths {
		a := randomText(random, n)
		if got := digest.Leaf(a); got != leaf(a) {
			t.Errorf("Leaf of %d bytes = %x, want %x", n, got, leaf(a))
		}
		for _, m := range lengths {
			b := randomText(random, m)
			if got := digest.Node(a, b); got != node(a, b) {
				t.Errorf("Node of %d and %d bytes = %x, want %x", n, m, got, node(a, b))
			}
			if got := digest.Chain(a, b); got != chain(a, b) {
				t.Errorf("Chain of %d and %d bytes = %x, want %x", n, m, got, chain(a, b))
			}
		}
	}
}

func TestRoot(t *testing.T) { // P2.1
	l := []string{"", "\x00", "\x10", " !", "01", "@ABC", "PQRSTUVW", "`abcdefghijklmno"}
	for n, want := range []string{
		"e3b0c44298fc1c149afbf4c8996fb92427ae41e4649b934ca495991b7852b855",
		"6e340b9cffb37a989ca544e6bb780a2c78901d3fb33738768511a30617afa01d",
		"fac54203e7cc696cf0dfcb42c92a1d9dbaf70ad9e621f4bd8d98662f00e3c125",
		"aeb6bcfe274b70a14fb067a5e5578264db0fa9b51af5e0ba159158f329e06e77",
		"d37ee418976dd95753c1c73862b9398fa2a2cf9b4ff0fdfe8b30cd95209614b7",
		"4e3bbb1f7b478dcfe71fb631631519a3bca12c9aefca1612bfce4c13a86264d4",
		"76e67dadbcdf1e10e1b74ddc608abd2f98dfb16fbce75277b5232a127f2087ef",
		"ddb89be403809e325750d3d263cd78929c2942b7942a34b77e122c9594a74c8c",
		"5dc9da79a70659a9ad559cb701ded9a2ab9d823aad2f4960cfe370eff4604328",
	} {
		if got := digest.Root(l[:n]); got != fromHex(t, want) {
			t.Errorf("Root of the first %d entries = %x, want %s", n, got, want)
		}
	}
	if digest.Root(nil) != digest.Root([]string{}) {
		t.Error("nil has another root than an empty list")
	}
	for _, n := range append(sizes(), 1000, 4097) {
		if l := entries(n); digest.Root(l) != root(l) {
			t.Errorf("Root of %d entries = %x, want %x", n, digest.Root(l), root(l))
		}
	}
}

func TestProof(t *testing.T) { // P2.1, P2.2
	three := []string{"a", "b", "c"}
	if p, err := digest.Proof(three, 2); !same(p, []string{node(leaf("a"), leaf("b"))}) || err != api.OK {
		t.Errorf("Proof of a list with three entries, 2 = %x, %d", p, err)
	}
	for _, n := range sizes() {
		l := entries(n)
		r := digest.Root(l)
		for _, i := range places(n) {
			p, err := digest.Proof(l, i)
			if err != api.OK || !same(p, proof(l, i)) {
				t.Fatalf("Proof of %d entries, %d = %x, %d", n, i, p, err)
			}
			if !digest.Verify(r, n, i, l[i], p) {
				t.Fatalf("Verify refuses the proof of %d entries, %d", n, i)
			}
			if len(p) > bits.Len(uint(n)) {
				t.Fatalf("the proof of %d entries, %d has %d elements", n, i, len(p))
			}
		}
	}
}

func TestProofRefuses(t *testing.T) { // P2.1
	for _, n := range []int{0, 1, 2, 3, 8} {
		for _, i := range []int{-1, -2, n, n + 1, math.MinInt, math.MaxInt} {
			if p, err := digest.Proof(entries(n), i); len(p) != 0 || err != api.ErrArg {
				t.Errorf("Proof of %d entries, %d = %x, %d; want ErrArg", n, i, p, err)
			}
		}
	}
}

// changedProofs returns proofs that differ from p: in a bit, in their length, in the length of an element, or in their order.
func changedProofs(p []string) [][]string {
	zero := strings.Repeat("\x00", 32)
	l := [][]string{append(copyOf(p), zero), append(copyOf(p), ""), append([]string{zero}, p...), append([]string{sum("")}, p...)}
	for j := range p {
		for _, bit := range []int{0, 7, 100, 255} {
			l = append(l, copyOf(p))
			l[len(l)-1][j] = changeBit(p[j], bit)
		}
		for _, x := range []string{"", p[j][:31], p[j][1:], p[j] + "\x00", "\x00" + p[j], p[j] + p[j], zero} {
			l = append(l, copyOf(p))
			l[len(l)-1][j] = x
		}
		l = append(l, slices.Delete(copyOf(p), j, j+1), slices.Insert(copyOf(p), j, p[j]))
		if j > 0 {
			l = append(l, copyOf(p))
			l[len(l)-1][j-1], l[len(l)-1][j] = p[j], p[j-1]
		}
	}
	return l
}

func TestVerifyRefuses(t *testing.T) { // P2.1, P2.3
	for _, n := range []int{1, 2, 3, 4, 5, 7, 8, 13, 16, 33} {
		l := entries(n)
		r := digest.Root(l)
		for i, s := range l {
			p, _ := digest.Proof(l, i)
			refuse := func(what string, r string, n, i int, s string, p []string) {
				t.Helper()
				if digest.Verify(r, n, i, s, p) {
					t.Fatalf("Verify of entry %d of %d accepts %s", i, n, what)
				}
			}
			for _, q := range changedProofs(p) {
				refuse("a changed proof", r, n, i, s, q)
			}
			for j, other := range l {
				if j != i {
					refuse("another entry", r, n, i, other, p)
					refuse("another index", r, n, j, s, p)
				}
			}
			refuse("a longer entry", r, n, i, s+"\x00", p)
			refuse("the leaf of the entry", r, n, i, leaf(s), p)
			for _, other := range []string{"", r[:31], r + "\x00", changeBit(r, 0), changeBit(r, 255), leaf("?")} {
				refuse("another root", other, n, i, s, p)
			}
			for _, j := range []int{-1, -n, n, n + i, math.MinInt, math.MaxInt} {
				refuse("an index that is none", r, n, j, s, p)
			}
			for _, m := range []int{0, -1, -n, i, math.MinInt} {
				refuse("no entries", r, m, i, s, p)
			}
			refuse("very many entries", r, math.MaxInt, i, s, p)
		}
	}
	if digest.Verify(digest.Root(nil), 0, 0, "", nil) || digest.Verify("", 0, 0, "", nil) || digest.Verify("", 1, 0, "", nil) {
		t.Error("Verify accepts an entry of an empty list")
	}
}

func TestVerifyRefusesElementsThatAreNoDigests(t *testing.T) { // P2.1: the value is the root, but for its length an element would do
	for _, x := range []string{"", "x", leaf("b")[:31], leaf("b") + "\x00", leaf("b") + leaf("c")} {
		if digest.Verify(node(leaf("a"), x), 2, 0, "a", []string{x}) || digest.Verify(node(x, leaf("a")), 2, 1, "a", []string{x}) {
			t.Errorf("Verify accepts an element of %d bytes", len(x))
		}
	}
	// The concatenation of an element and of what the proof leads to is that of two other strings.
	first, second := leaf("a")+leaf("b")[:1], leaf("b")[1:]
	if digest.Verify(node(first, second), 2, 1, "b", []string{first}) || digest.Verify(node(first, second), 2, 0, "a", []string{second}) {
		t.Error("Verify accepts an element with another end")
	}
}

// counts are numbers of entries, up to the greatest one.
func counts() []int {
	l := []int{math.MinInt, -1, 0, 1, 2, 3, 4, 5, 6, 7, 8, 9, 12, 31, 32, 33, math.MaxInt - 1, math.MaxInt}
	for _, b := range []int{31, 32, 47, 61, 62} {
		l = append(l, 1<<b-1, 1<<b, 1<<b+1)
	}
	return l
}

// below returns a number from 0 to n - 1, often one near an end or near a power of two.
func below(random *rand.Rand, n int) int {
	switch random.Intn(5) {
	case 0:
		return 0
	case 1:
		return n - 1
	case 2:
		return n / 2
	case 3:
		return (1<<random.Intn(bits.Len(uint(n))) + random.Intn(3) - 1) % n
	}
	return random.Intn(n)
}

func digests(random *rand.Rand, n int) []string {
	var l []string
	for range n {
		l = append(l, randomText(random, 32))
	}
	return l
}

func TestVerifyWithAnyNumbers(t *testing.T) { // P2.1: trees that are too great to be built
	random := rand.New(rand.NewSource(3))
	accepted := 0
	for range 4000 {
		n := counts()[random.Intn(len(counts()))]
		i := random.Intn(5) - 2
		if n > 0 && random.Intn(8) > 0 {
			i = below(random, n)
		}
		p := digests(random, random.Intn(66))
		if n > 0 && i >= 0 && i < n && random.Intn(4) > 0 {
			for depth := range 64 {
				if _, ok := rootOf(n, i, "s", make([]string, depth)); ok {
					p = digests(random, depth)
				}
			}
		}
		r, _ := rootOf(n, i, "s", p)
		want := verify(r, n, i, "s", p)
		if want {
			accepted++
		}
		if got := digest.Verify(r, n, i, "s", p); got != want {
			t.Fatalf("Verify of entry %d of %d with %d elements = %v, want %v", i, n, len(p), got, want)
		}
	}
	if accepted < 1000 {
		t.Errorf("only %d proofs were accepted", accepted)
	}
}

func TestExtension(t *testing.T) { // P2.1, P2.2
	three := []string{"a", "b", "c"}
	if p, err := digest.Extension(three, 1); !same(p, []string{leaf("b"), leaf("c")}) || err != api.OK {
		t.Errorf("Extension of a list with three entries, 1 = %x, %d", p, err)
	}
	for _, n := range sizes() {
		l := entries(n)
		r := digest.Root(l)
		for _, m := range append(places(n), n) {
			p, err := digest.Extension(l, m)
			if err != api.OK || !same(p, extension(l, m)) {
				t.Fatalf("Extension of %d entries, %d = %x, %d", n, m, p, err)
			}
			if (m == 0 || m == n) && len(p) != 0 {
				t.Fatalf("Extension of %d entries, %d has %d elements", n, m, len(p))
			}
			if !digest.VerifyExtension(digest.Root(l[:m]), m, r, n, p) {
				t.Fatalf("VerifyExtension refuses the proof of %d entries, %d", n, m)
			}
			if len(p) > 2*bits.Len(uint(n)) {
				t.Fatalf("the extension of %d entries, %d has %d elements", n, m, len(p))
			}
		}
	}
}

func TestExtensionRefuses(t *testing.T) { // P2.1
	for _, n := range []int{0, 1, 2, 3, 8} {
		for _, m := range []int{-1, -2, n + 1, n + 2, math.MinInt, math.MaxInt} {
			if p, err := digest.Extension(entries(n), m); len(p) != 0 || err != api.ErrArg {
				t.Errorf("Extension of %d entries, %d = %x, %d; want ErrArg", n, m, p, err)
			}
		}
	}
}

func TestVerifyExtensionRefuses(t *testing.T) { // P2.1, P2.4
	for _, n := range []int{1, 2, 3, 4, 5, 7, 8, 13, 16, 33} {
		l := entries(n)
		r := digest.Root(l)
		for m := 1; m <= n; m++ {
			p, _ := digest.Extension(l, m)
			old := digest.Root(l[:m])
			refuse := func(what string, old string, m int, r string, n int, p []string) {
				t.Helper()
				if digest.VerifyExtension(old, m, r, n, p) {
					t.Fatalf("VerifyExtension of %d of %d entries accepts %s", m, n, what)
				}
			}
			for _, q := range changedProofs(p) {
				refuse("a changed proof", old, m, r, n, q)
			}
			for k := range n + 1 {
				if k != m {
					refuse("the root of other entries", digest.Root(l[:k]), m, r, n, p)
				}
				if k < n {
					refuse("the root of another list", old, m, digest.Root(l[:k]), n, p)
				}
			}
			for _, bit := range []int{0, 255} {
				refuse("a changed old root", changeBit(old, bit), m, r, n, p)
				refuse("a changed root", old, m, changeBit(r, bit), n, p)
			}
			for _, x := range []string{"", "x", r[:31], r + "\x00"} {
				refuse("an old root that is no digest", x, m, r, n, p)
				refuse("a root that is no digest", old, m, x, n, p)
				refuse("two roots that are no digests", x, m, x, n, p)
			}
			for _, k := range []int{-1, -m, n + 1, n + m, math.MinInt, math.MaxInt} {
				refuse("a number that is not from 0 to n", old, k, r, n, p)
			}
			for _, k := range []int{-1, 0, m - 1, math.MinInt} {
				refuse("too few entries", old, m, r, k, p)
			}
			refuse("very many entries", old, m, r, math.MaxInt, p)
		}
	}
}

func TestVerifyExtensionOfNothing(t *testing.T) { // P2.1: m is 0
	none, other := sum(""), sum("other")
	for _, n := range []int{0, 1, 2, 5, math.MaxInt} {
		for _, r := range []string{none, other, strings.Repeat("\x00", 32)} {
			if !digest.VerifyExtension(none, 0, r, n, nil) || !digest.VerifyExtension(none, 0, r, n, []string{}) {
				t.Errorf("VerifyExtension refuses 0 of %d entries", n)
			}
			if digest.VerifyExtension(other, 0, r, n, nil) || digest.VerifyExtension(strings.Repeat("\x00", 32), 0, r, n, nil) {
				t.Errorf("VerifyExtension accepts another old root for 0 of %d entries", n)
			}
			if digest.VerifyExtension(none, 0, r, n, []string{none}) || digest.VerifyExtension(none, 0, r, n, []string{""}) {
				t.Errorf("VerifyExtension accepts a proof for 0 of %d entries", n)
			}
			if digest.VerifyExtension("", 0, r, n, nil) || digest.VerifyExtension(none, 0, "", n, nil) || digest.VerifyExtension(none, 0, r+"x", n, nil) {
				t.Errorf("VerifyExtension accepts a root that is no digest for 0 of %d entries", n)
			}
		}
	}
	for _, n := range []int{-1, math.MinInt} {
		if digest.VerifyExtension(none, 0, none, n, nil) || digest.VerifyExtension(none, n, none, n, nil) {
			t.Errorf("VerifyExtension accepts %d entries", n)
		}
	}
}

func TestVerifyExtensionRefusesWhatIsNoDigest(t *testing.T) { // P2.1, P2.4: the two values are the roots, but for its length an element or an old root would do
	for _, x := range []string{"", "x", leaf("b")[:31], leaf("b") + "\x00", leaf("b") + leaf("c")} {
		a := leaf("a")
		if digest.VerifyExtension(a, 1, node(a, x), 2, []string{x}) {
			t.Errorf("VerifyExtension accepts a last element of %d bytes", len(x))
		}
		if digest.VerifyExtension(node(a, x), 3, node(a, node(x, a)), 4, []string{x, a, a}) {
			t.Errorf("VerifyExtension accepts a first element of %d bytes", len(x))
		}
		if digest.VerifyExtension(node(x, a), 3, node(x, node(a, a)), 4, []string{a, a, x}) {
			t.Errorf("VerifyExtension accepts a common element of %d bytes", len(x))
		}
	}
	a := leaf("a")
	// If m is a power of two, the first value is old, whatever it is.
	for _, x := range []string{"", "x", a[:31], a + "\x00", a + a} {
		if digest.VerifyExtension(x, 1, node(x, a), 2, []string{a}) || digest.VerifyExtension(x, 2, node(x, a), 3, []string{a}) || digest.VerifyExtension(x, 2, node(node(x, a), a), 5, []string{a, a}) {
			t.Errorf("VerifyExtension accepts an old root of %d bytes", len(x))
		}
	}
	if !digest.VerifyExtension(a, 2, node(node(a, a), a), 5, []string{a, a}) {
		t.Error("VerifyExtension refuses digests")
	}
	if !digest.VerifyExtension(node(a, a), 3, node(a, node(a, a)), 4, []string{a, a, a}) {
		t.Error("VerifyExtension refuses digests")
	}
}

func TestVerifyExtensionWithAnyNumbers(t *testing.T) { // P2.1: trees that are too great to be built
	random := rand.New(rand.NewSource(4))
	accepted := 0
	for range 4000 {
		n := counts()[random.Intn(len(counts()))]
		m := random.Intn(5) - 2
		if n > 0 && random.Intn(8) > 0 {
			m = below(random, n) + random.Intn(2)
		}
		old := randomText(random, 32)
		p := digests(random, random.Intn(66))
		if m > 0 && m <= n && random.Intn(4) > 0 {
			for depth := range 65 {
				if _, _, ok := rootsOf(old, m, n, make([]string, depth)); ok {
					p = digests(random, depth)
				}
			}
		}
		r := old
		if m > 0 && m <= n {
			if before, after, ok := rootsOf(old, m, n, p); ok {
				old, r = before, after
			}
		}
		want := verifyExtension(old, m, r, n, p)
		if want {
			accepted++
		}
		if got := digest.VerifyExtension(old, m, r, n, p); got != want {
			t.Fatalf("VerifyExtension of %d of %d entries with %d elements = %v, want %v", m, n, len(p), got, want)
		}
	}
	if accepted < 1000 {
		t.Errorf("only %d proofs were accepted", accepted)
	}
}

// known returns the digests that somebody who has l can compute: those of all its parts, and some others.
func known(l []string) []string {
	pool := []string{sum(""), strings.Repeat("\x00", 32)}
	for i := range l {
		for j := i + 1; j <= len(l); j++ {
			if r := root(l[i:j]); !slices.Contains(pool, r) {
				pool = append(pool, r)
			}
		}
	}
	return pool
}

// eachProof calls f with every proof of at most n elements of the pool.
func eachProof(pool []string, n int, f func([]string)) {
	var extend func(p []string)
	extend = func(p []string) {
		f(p)
		if len(p) == n {
			return
		}
		for _, x := range pool {
			extend(append(p, x))
		}
	}
	extend(make([]string, 0, n))
}

func TestEntriesAreBound(t *testing.T) { // P2.3: whatever the proof, no other entry is accepted
	for n := 1; n <= 4; n++ {
		l := entries(n)
		r := digest.Root(l)
		pool := known(l)
		candidates := append(copyOf(l), pool...)
		for _, a := range pool[:4] {
			for _, b := range pool[:4] {
				candidates = append(candidates, a+b, "\x01"+a+b)
			}
		}
		eachProof(pool, 3, func(p []string) {
			for i := range n {
				if _, ok := rootOf(n, i, "", p); !ok {
					continue
				}
				for _, s := range candidates {
					if digest.Verify(r, n, i, s, p) && (s != l[i] || !same(p, proof(l, i))) {
						t.Fatalf("Verify accepts %x as entry %d of %d", s, i, n)
					}
				}
			}
		})
	}
}

func TestBeginningsAreBound(t *testing.T) { // P2.4: whatever the proof, no other old root is accepted
	for n := 1; n <= 4; n++ {
		l := entries(n)
		r := digest.Root(l)
		pool := known(l)
		eachProof(pool, 3, func(p []string) {
			for m := 0; m <= n; m++ {
				for _, old := range pool {
					if digest.VerifyExtension(old, m, r, n, p) && (old != root(l[:m]) || !same(p, extension(l, m))) {
						t.Fatalf("VerifyExtension accepts %x for %d of %d entries", old, m, n)
					}
				}
			}
		})
	}
}

func TestHeadsAreDistinct(t *testing.T) { // P2.3
	zero := strings.Repeat("\x00", 32)
	first := chain(zero, "")
	records := []string{"", "\x00", "\x01", "\x02", "a", "aa", zero, zero + "a", first, first + "a", "\x02" + zero, "\x02" + zero + "a"}
	of := map[string]string{zero: "no records"}
	var extend func(head, name string, depth int)
	extend = func(head, name string, depth int) {
		for _, record := range records {
			h := digest.Chain(head, record)
			longer := fmt.Sprintf("%s, %x", name, record)
			if other, ok := of[h]; ok {
				t.Fatalf("the lists %s and %s have the same head", longer, other)
			}
			of[h] = longer
			if depth > 1 {
				extend(h, longer, depth-1)
			}
		}
	}
	extend(zero, "list", 3)
}

func TestTagsAreDistinct(t *testing.T) { // P2.3: what is digested as one kind is never digested as another one
	a, b := sum("a"), sum("b")
	all := map[string]bool{}
	list := []string{digest.Sum(a + b), digest.Leaf(a + b), digest.Node(a, b), digest.Node(b, a), digest.Chain(a, b), digest.Root([]string{a, b}), digest.Root(nil), digest.Leaf("")}
	for _, d := range list {
		all[d] = true
		if len(d) != api.DigestSize {
			t.Errorf("a digest has %d bytes", len(d))
		}
	}
	if len(all) != len(list) {
		t.Error("two of them are the same")
	}
}

// roomy returns l in the middle of a longer list, and the latter.
func roomy(l []string) ([]string, []string) {
	all := append(append([]string{"before"}, l...), "after", "after", "after")
	return all[1 : len(l)+1], all
}

func TestArgumentsAndResultsAreApart(t *testing.T) { // R3
	for n := 1; n <= 9; n++ {
		l, all := roomy(entries(n))
		before := copyOf(all)
		for i := range n {
			p, _ := digest.Proof(l, i)
			e, _ := digest.Extension(l, i+1)
			proofs, everyProof := roomy(p)
			extensions, everyExtension := roomy(e)
			proofBefore, extensionBefore := copyOf(everyProof), copyOf(everyExtension)
			if !digest.Verify(digest.Root(l), n, i, l[i], proofs) || !digest.VerifyExtension(digest.Root(l[:i+1]), i+1, digest.Root(l), n, extensions) {
				t.Fatalf("the proofs of %d entries, %d, are refused", n, i)
			}
			if !same(everyProof, proofBefore) || !same(everyExtension, extensionBefore) || !same(all, before) {
				t.Fatalf("an argument was changed, with %d entries, %d", n, i)
			}
			for _, result := range [][]string{p[:cap(p)], e[:cap(e)]} {
				for j := range result {
					result[j] = "changed"
				}
			}
			q, _ := digest.Proof(l, i)
			f, _ := digest.Extension(l, i+1)
			if !same(all, before) || !same(q, proof(l, i)) || !same(f, extension(l, i+1)) {
				t.Fatalf("a result is not new memory, with %d entries, %d", n, i)
			}
		}
	}
}

// Example shows how it is proved that a list has an entry, and that it begins with another list.
func Example() {
	l := []string{"a", "b", "c"}
	proof, _ := digest.Proof(l, 2)
	fmt.Println(len(proof), digest.Verify(digest.Root(l), 3, 2, "c", proof), digest.Verify(digest.Root(l), 3, 2, "b", proof))
	proof, _ = digest.Extension(l, 1)
	fmt.Println(len(proof), digest.VerifyExtension(digest.Root(l[:1]), 1, digest.Root(l), 3, proof))
	_, err := digest.Proof(l, 3)
	fmt.Println(err == api.ErrArg)
	// Output:
	// 1 true false
	// 2 true
	// true
}
