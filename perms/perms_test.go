package perms_test

import (
	"fmt"
	"math"
	"math/rand"
	"reflect"
	"slices"
	"testing"

	"toolchest/api"
	"toolchest/perms"
	"toolchest/tree"
)

const nine = 511 // all bits of a mode

// Numbers that are no user's and no group's, but may be handed in.
var wildNumbers = []int{-1, -5, -65536, math.MinInt, math.MinInt32, 65536, 1 << 32, 1<<32 + 5, math.MaxInt32, math.MaxInt}

// Kinds of all sorts: those that there are, and some that there are not.
var (
	realKinds  = []api.NodeKind{api.NoFile, api.NoDir, api.NoLink}
	otherKinds = []api.NodeKind{4, 5, 128, 255}
)

// node: of the user 5 and the group 7.
func node(k api.NodeKind, mode int) api.Node {
	return api.Node{Kind: k, Mode: mode, User: 5, Group: 7}
}

func somebody(user, group int) api.Env { return api.Env{User: user, Group: group} }

func wantMay(t *testing.T, n api.Node, e api.Env, what int, want bool) {
	t.Helper()
	if got := perms.May(n, e, what); got != want {
		t.Errorf("May(kind %d, mode %o, user %d, group %d; user %d, group %d; %d): %v, want %v", n.Kind, n.Mode, n.User, n.Group, e.User, e.Group, what, got, want)
	}
	if slow := slowMay(n, e, what); slow != want {
		t.Errorf("slowMay(kind %d, mode %o; user %d, group %d; %d): %v, want %v", n.Kind, n.Mode, e.User, e.Group, what, slow, want)
	}
}

// letters: which of rwx a mode's octal digit has.
func letters(digit byte) string {
	return []string{"", "x", "w", "wx", "r", "rx", "rw", "rwx"}[digit-'0']
}

// digits: a mode's three octal digits, of the user, the group and others.
func digits(mode int) string {
	return fmt.Sprintf("%03o", (mode%512+512)%512)
}

// slowMay: by letters, one after the other.
func slowMay(n api.Node, e api.Env, what int) bool {
	if n.Kind == 0 || !slices.Contains([]int{1, 2, 3, 4, 5, 6, 7}, what) {
		return false
	}
	d := digits(n.Mode)
	var has string
	switch {
	case e.User == 0:
		has = "rwx"
		if n.Kind == 1 && letters(d[0]|1) != letters(d[0]) && letters(d[1]|1) != letters(d[1]) && letters(d[2]|1) != letters(d[2]) {
			has = "rw"
		}
	case e.User == n.User:
		has = letters(d[0])
	case e.Group == n.Group:
		has = letters(d[1])
	default:
		has = letters(d[2])
	}
	for _, asked := range letters(byte('0' + what)) {
		if !slices.Contains([]rune(has), asked) {
			return false
		}
	}
	return true
}

// The chapter's examples.
func TestExamples(t *testing.T) {
	n := node(api.NoFile, 420)
	wantMay(t, n, api.Env{User: 5}, 6, true)
	wantMay(t, n, somebody(6, 7), 4, true)
	wantMay(t, n, somebody(6, 7), 2, false)
	wantMay(t, n, api.Env{}, 6, true)
	wantMay(t, n, api.Env{}, 1, false)
	wantMay(t, n, api.Env{User: 5}, 0, false)
	for user, want := range map[int]bool{5: true, 6: false, 0: true} {
		if got := perms.Owns(n, api.Env{User: user}); got != want {
			t.Errorf("Owns of the user %d: %v", user, got)
		}
	}
}

// P13.1: what is 1 to 7, and nothing else.
func TestWhat(t *testing.T) {
	whos := []api.Env{somebody(0, 0), somebody(0, 7), somebody(5, 7), somebody(5, 0), somebody(6, 7), somebody(6, 6)}
	for _, kind := range slices.Concat(realKinds, otherKinds) {
		for _, e := range whos {
			for what := 1; what <= 7; what++ {
				wantMay(t, node(kind, nine), e, what, true)
			}
			for _, mode := range []int{nine, 0, -1, math.MaxInt} {
				for _, what := range []int{0, 8, 9, 12, 15, 16, 64, 73, 256, 448, 511, 512, 1 << 31, 1<<32 + 1, 1<<32 + 4, math.MaxInt, -1, -2, -4, -7, -8, math.MinInt, math.MinInt + 4} {
					wantMay(t, node(kind, mode), e, what, false)
				}
			}
		}
	}
}

// P13.1: to a node whose kind is none nobody may do anything.
func TestNone(t *testing.T) {
	for _, mode := range []int{0, 73, nine, -1, math.MaxInt} {
		for _, e := range []api.Env{somebody(0, 0), somebody(0, 7), somebody(5, 7), somebody(6, 7), somebody(6, 6)} {
			for what := -1; what <= 8; what++ {
				wantMay(t, node(api.NoNone, mode), e, what, false)
				wantMay(t, api.Node{}, e, what, false)
			}
		}
	}
}

// P13.1: the user 0 at every mode of a file: all but the bit 1 where nobody has it, whoever's file it is.
func TestUser0(t *testing.T) {
	for mode := range nine + 1 {
		some := mode&1 != 0 || mode&8 != 0 || mode&64 != 0
		for what := 1; what <= 7; what++ {
			for _, e := range []api.Env{somebody(0, 0), somebody(0, 7), somebody(0, 6)} {
				n := node(api.NoFile, mode)
				wantMay(t, n, e, what, what%2 == 0 || some)
				n.User = 0
				wantMay(t, n, e, what, what%2 == 0 || some)
				for _, kind := range append(otherKinds, api.NoDir, api.NoLink) {
					wantMay(t, node(kind, mode), e, what, true)
				}
			}
		}
	}
	for _, what := range []int{1, 3, 5, 7} {
		wantMay(t, node(api.NoFile, 0), api.Env{}, what, false)
		wantMay(t, node(api.NoFile, nine&^73), api.Env{}, what, false)
		for _, x := range []int{1, 8, 64} { // one of the bits 73 alone, with all others and with none
			wantMay(t, node(api.NoFile, x), api.Env{}, what, true)
			wantMay(t, node(api.NoFile, nine&^73|x), api.Env{}, what, true)
		}
		for _, not := range []int{2, 4, 16, 32, 128, 256, 512, 1 << 20} { // any other bit makes no difference
			wantMay(t, node(api.NoFile, not), api.Env{}, what, false)
		}
	}
}

// P13.1: the three bits of the node's User, of its Group, of others, each alone.
func TestWhoseBits(t *testing.T) {
	for _, kind := range slices.Concat(realKinds, otherKinds) {
		for _, c := range []struct {
			e     api.Env
			place int
		}{
			{somebody(5, 7), 64}, {somebody(5, 6), 64}, {somebody(5, 0), 64}, {somebody(5, 5), 64},
			{somebody(6, 7), 8}, {somebody(7, 7), 8}, {somebody(65535, 7), 8}, {somebody(1, 7), 8},
			{somebody(6, 6), 1}, {somebody(7, 5), 1}, {somebody(6, 0), 1}, {somebody(6, 65535), 1}, {somebody(1, 5), 1},
		} {
			for what := 1; what <= 7; what++ {
				for has := range 8 {
					want := what&has == what
					wantMay(t, node(kind, has*c.place), c.e, what, want)
					wantMay(t, node(kind, nine-7*c.place+has*c.place), c.e, what, want)
				}
			}
		}
	}
}

// P13.1: where the User's bits give less than the others', the User has no more than them; so has the group.
func TestLessThanOthers(t *testing.T) {
	n := node(api.NoFile, 0o077)
	for what := 1; what <= 7; what++ {
		wantMay(t, n, somebody(5, 7), what, false)
		wantMay(t, n, somebody(5, 6), what, false)
		wantMay(t, n, somebody(6, 7), what, true)
		wantMay(t, n, somebody(6, 6), what, true)
		wantMay(t, node(api.NoFile, 0o707), somebody(6, 7), what, false)
		wantMay(t, node(api.NoFile, 0o707), somebody(6, 6), what, true)
		wantMay(t, node(api.NoFile, 0o007), somebody(5, 7), what, false)
	}
	wantMay(t, node(api.NoDir, 0o421), somebody(5, 7), 6, false) // bits of several are not put together
	wantMay(t, node(api.NoDir, 0o421), somebody(5, 7), 4, true)
	wantMay(t, node(api.NoDir, 0o421), somebody(6, 7), 3, false)
	wantMay(t, node(api.NoDir, 0o421), somebody(6, 7), 2, true)
}

// P13.1: a node of the user 0 or the group 0: the user 0 alone may do all; a group 0 is one as any other.
func TestOfUser0(t *testing.T) {
	n := api.Node{Kind: api.NoFile, Mode: 0o640}
	wantMay(t, n, somebody(0, 9), 6, true)
	wantMay(t, n, somebody(5, 0), 4, true)
	wantMay(t, n, somebody(5, 0), 2, false)
	wantMay(t, n, somebody(5, 5), 4, false)
	wantMay(t, node(api.NoFile, 0o700), somebody(6, 0), 4, false)
}

// P13.1, R1: numbers of users and groups such as nobody has are held against each other as they are.
func TestWildNumbers(t *testing.T) {
	for _, number := range wildNumbers {
		n := api.Node{Kind: api.NoFile, Mode: 0o421, User: number, Group: number}
		for what := 1; what <= 7; what++ {
			wantMay(t, n, somebody(number, number), what, what == 4)
			wantMay(t, n, somebody(number, 7), what, what == 4)
			wantMay(t, n, somebody(5, number), what, what == 2)
			wantMay(t, n, somebody(5, 7), what, what == 1)
			wantMay(t, node(api.NoDir, 0o421), somebody(number, number), what, what == 1)
			wantMay(t, node(api.NoDir, 0o421), somebody(number, 7), what, what == 2)
			wantMay(t, node(api.NoDir, 0o421), somebody(5, number), what, what == 4)
			wantMay(t, n, somebody(0, number), what, true)
		}
		for _, other := range wildNumbers {
			if own := perms.Owns(n, somebody(other, number)); own != (other == number) {
				t.Errorf("Owns of the user %d, of a node of %d: %v", other, number, own)
			}
		}
	}
}

// P13.1, R1: of modes below 0 and above 511 the nine lowest bits count.
func TestWildModes(t *testing.T) {
	for _, above := range []int{512, 1024, 4096, 1 << 31, 1 << 32, 1 << 62, -512, -1024, math.MinInt} {
		for mode := range nine + 1 {
			for what := 1; what <= 7; what++ {
				for _, e := range []api.Env{somebody(0, 7), somebody(5, 7), somebody(6, 7), somebody(6, 6)} {
					n := node(api.NoFile, mode)
					want := perms.May(n, e, what)
					n.Mode += above
					wantMay(t, n, e, what, want)
				}
			}
		}
	}
	for _, e := range []api.Env{somebody(0, 7), somebody(5, 7), somebody(6, 7), somebody(6, 6)} {
		for what := 1; what <= 7; what++ {
			wantMay(t, node(api.NoFile, -1), e, what, true)
			wantMay(t, node(api.NoFile, math.MaxInt), e, what, true)
			wantMay(t, node(api.NoFile, math.MinInt), e, what, e.User == 0 && what%2 == 0)
		}
	}
}

// everybody: who is the user 0, the node's User, of its group, neither; and whose node it may be.
func everybody(each func(of api.Node, e api.Env)) {
	for _, user := range []int{0, 5, 6} {
		for _, group := range []int{0, 7, 8} {
			for _, ofUser := range []int{0, 5} {
				for _, ofGroup := range []int{0, 7} {
					each(api.Node{User: ofUser, Group: ofGroup}, somebody(user, group))
				}
			}
		}
	}
}

// P13.1: everybody at all modes of all kinds, held against the slow reading.
func TestAny(t *testing.T) {
	everybody(func(n api.Node, e api.Env) {
		for kind := range 6 {
			n.Kind = api.NodeKind(kind)
			for n.Mode = -1; n.Mode <= nine+1; n.Mode++ {
				for what := -1; what <= 8; what++ {
					if got, want := perms.May(n, e, what), slowMay(n, e, what); got != want {
						t.Fatalf("May(%+v, %+v, %d): %v, want %v", n, e, what, got, want)
					}
				}
			}
		}
	})
}

// P13.1, P13.2: nothing but Kind, Mode, User and Group of a node, and User and Group of somebody, makes a difference.
func TestNothingElse(t *testing.T) {
	everybody(func(n api.Node, e api.Env) {
		for _, kind := range realKinds {
			for n.Mode = 0; n.Mode <= nine; n.Mode += 21 {
				n.Kind = kind
				more, who := n, e
				more.Links, more.Time, more.Parent, more.Target = 9, -1, 5, "x"
				more.Data, more.List = []byte("x"), []api.Entry{{Name: "..", Node: -1}}
				who.Mask, who.Dir = nine, 5
				for what := range 9 {
					wantMay(t, more, who, what, perms.May(n, e, what))
				}
				if perms.Owns(more, who) != perms.Owns(n, e) {
					t.Errorf("Owns(%+v, %+v)", more, who)
				}
			}
		}
	})
}

// P13.2: the user 0 and the node's User, whatever the kind, the mode and the group.
func TestOwns(t *testing.T) {
	for kind := range 6 {
		for _, mode := range []int{0, 420, nine, -1} {
			for _, group := range []int{0, 5, 7, 9} {
				for _, c := range []struct {
					of, user int
					want     bool
				}{
					{5, 5, true}, {5, 0, true}, {5, 6, false}, {5, 7, false}, {5, -5, false}, {5, 1, false}, {5, 1<<32 + 5, false}, {5, 65535, false},
					{0, 0, true}, {0, 1, false}, {0, 5, false}, {0, -1, false}, {0, 65535, false}, {0, math.MinInt, false},
					{65535, 65535, true}, {65535, -1, false}, {-1, -1, true}, {-1, 0, true}, {math.MaxInt, math.MaxInt, true}, {math.MaxInt, math.MinInt, false},
				} {
					n := api.Node{Kind: api.NodeKind(kind), Mode: mode, User: c.of, Group: 7}
					if got := perms.Owns(n, somebody(c.user, group)); got != c.want {
						t.Errorf("Owns of the user %d, group %d, of a node of %d: %v, want %v", c.user, group, c.of, got, c.want)
					}
				}
			}
		}
	}
}

// Numbers of sample's nodes.
const (
	nRoot = 1 + iota
	nDir
	nFile
	nLink
	nFree
	nInner // a directory in the other one, the last node
)

// sample: a tree with something of every kind, and a free number amid the others. Its inner directory is one that just the user 0 may go into.
func sample() api.Tree {
	t := tree.New()
	t.Nodes[nRoot].Links, t.Nodes[nRoot].List = 3, []api.Entry{{Name: "d", Node: nDir}, {Name: "f", Node: nFile}}
	t.Nodes = append(t.Nodes,
		api.Node{Kind: api.NoDir, Mode: 0o755, Links: 3, Parent: nRoot, List: []api.Entry{{Name: "i", Node: nInner}, {Name: "l", Node: nLink}}},
		api.Node{Kind: api.NoFile, Mode: 0o644, Links: 1, Data: []byte("hello")},
		api.Node{Kind: api.NoLink, Mode: nine, Links: 1, Target: "/d"},
		api.Node{},
		api.Node{Kind: api.NoDir, User: 5, Group: 7, Links: 2, Parent: nDir},
	)
	return t
}

func wantCheck(t *testing.T, x api.Tree, e api.Env, want bool) {
	t.Helper()
	if got := perms.Check(x, e); got != want {
		t.Errorf("Check(a tree of %d nodes, %+v): %v, want %v", len(x.Nodes), e, got, want)
	}
}

// P13.3: User and Group 0 to 65535, Mask 0 to 511.
func TestCheckNumbers(t *testing.T) {
	if !tree.Check(sample()) {
		t.Fatal("the sample may not be")
	}
	for _, x := range []api.Tree{tree.New(), sample()} {
		wantCheck(t, x, api.Env{Dir: 1}, true)
		wantCheck(t, x, api.Env{User: 65535, Group: 65535, Mask: nine, Dir: 1}, true)
		for _, n := range []int{0, 1, 5, 511, 512, 65534, 65535} {
			wantCheck(t, x, api.Env{User: n, Dir: 1}, true)
			wantCheck(t, x, api.Env{Group: n, Dir: 1}, true)
			wantCheck(t, x, api.Env{User: 5, Group: n, Mask: 18, Dir: 1}, true)
		}
		for _, n := range wildNumbers {
			wantCheck(t, x, api.Env{User: n, Dir: 1}, false)
			wantCheck(t, x, api.Env{Group: n, Dir: 1}, false)
			wantCheck(t, x, api.Env{Mask: n, Dir: 1}, false)
			wantCheck(t, x, api.Env{User: n, Group: n, Mask: n, Dir: n}, false)
		}
		for n := -3; n <= nine+3; n++ {
			wantCheck(t, x, api.Env{User: 5, Group: 7, Mask: n, Dir: 1}, 0 <= n && n <= nine)
		}
		for _, n := range []int{512, 1023, 1024, 65535} {
			wantCheck(t, x, api.Env{Mask: n, Dir: 1}, false)
		}
	}
}

// P13.3: Dir is a directory of the tree, whether somebody may go into it or not.
func TestCheckDir(t *testing.T) {
	x := sample()
	for _, e := range []api.Env{{}, {User: 6, Group: 6, Mask: 18}, {User: 5, Group: 7, Mask: nine}, {User: 65535, Group: 65535}} {
		for _, n := range []int{nRoot, nDir, nInner} {
			e.Dir = n
			wantCheck(t, x, e, true)
			wantCheck(t, tree.New(), e, n == nRoot)
		}
		for _, n := range append([]int{0, nFile, nLink, nFree, nInner + 1, nInner + 2, 512, 513, 1<<32 + 1}, wildNumbers...) {
			e.Dir = n
			wantCheck(t, x, e, false)
			wantCheck(t, tree.New(), e, false)
		}
	}
}

// P13.3: in a tree that may not be, nobody may be.
func TestCheckTree(t *testing.T) {
	for i, spoil := range []func(x *api.Tree){
		func(x *api.Tree) { x.Nodes = nil },
		func(x *api.Tree) { x.Nodes = x.Nodes[:1] },
		func(x *api.Tree) { x.Nodes = x.Nodes[:2] },
		func(x *api.Tree) { x.Nodes = append(x.Nodes, api.Node{}) },
		func(x *api.Tree) { x.Now = -1 },
		func(x *api.Tree) { x.Now = api.MaxTime + 1 },
		func(x *api.Tree) { x.Nodes[0].Mode = 1 },
		func(x *api.Tree) { x.Nodes[nRoot].Links = 2 },
		func(x *api.Tree) { x.Nodes[nRoot].Parent = nDir },
		func(x *api.Tree) { x.Nodes[nRoot].Kind = api.NoFile },
		func(x *api.Tree) { x.Nodes[nDir].List[0].Node = nDir },
		func(x *api.Tree) { x.Nodes[nFile].Mode = 512 },
		func(x *api.Tree) { x.Nodes[nFile].User = 65536 },
		func(x *api.Tree) { x.Nodes[nFile].Kind = 4 },
		func(x *api.Tree) { x.Nodes[nLink].Target = "" },
		func(x *api.Tree) { x.Nodes[nInner].Parent = nRoot },
		func(x *api.Tree) { x.Nodes = append(x.Nodes, make([]api.Node, 1<<16)...) },
	} {
		x := sample()
		spoil(&x)
		if tree.Check(x) {
			t.Fatalf("the tree %d may be", i)
		}
		for n := -1; n <= nInner+1; n++ {
			wantCheck(t, x, api.Env{Dir: n}, false)
			wantCheck(t, x, api.Env{User: 5, Group: 7, Mask: 18, Dir: n}, false)
		}
	}
	wantCheck(t, api.Tree{}, api.Env{}, false)
	wantCheck(t, api.Tree{}, api.Env{Dir: 1}, false)
}

// P13.4: who may do several things may do each of them, and who may do each may do them together.
func TestEachOfSeveral(t *testing.T) {
	everybody(func(n api.Node, e api.Env) {
		for _, kind := range slices.Concat(realKinds, otherKinds) {
			for n.Mode = 0; n.Mode <= nine; n.Mode++ {
				n.Kind = kind
				for what := 1; what <= 7; what++ {
					each := true
					for part := 1; part <= what; part++ {
						if what&part == part {
							each = each && perms.May(n, e, part)
						}
					}
					if perms.May(n, e, what) != each {
						t.Fatalf("May(%+v, %+v, %d): not as of each part of it", n, e, what)
					}
				}
			}
		}
	})
}

// P13.4: more bits of a mode take nothing away.
func TestMoreBits(t *testing.T) {
	everybody(func(n api.Node, e api.Env) {
		for _, kind := range slices.Concat(realKinds, otherKinds) {
			for mode := range nine + 1 {
				n.Kind = kind
				for what := 1; what <= 7; what++ {
					n.Mode = mode
					if !perms.May(n, e, what) {
						continue
					}
					for bit := range 12 { // some above the nine, too; one bit more each time leads to any number of them
						n.Mode = mode | 1<<bit
						if !perms.May(n, e, what) {
							t.Fatalf("May(%+v, %+v, %d): false, but not with the mode %o", n, e, what, mode)
						}
					}
				}
			}
		}
	})
}

// anyNumber: small ones, those around the limits, and any at all.
func anyNumber(r *rand.Rand) int {
	few := []int{0, 0, 1, 1, 2, 3, 4, 5, 6, 7, 18, 73, 420, 493, 511, 512, 65535, 65536}
	switch r.Intn(8) {
	case 0:
		return int(r.Uint64())
	case 1:
		return wildNumbers[r.Intn(len(wildNumbers))]
	}
	return few[r.Intn(len(few))]
}

// R1: any node, tree and somebody: every call ends, none panics, and answers as the words say.
func TestWild(t *testing.T) {
	r := rand.New(rand.NewSource(13))
	may, be := 0, 0
	for range 200000 {
		e := api.Env{User: anyNumber(r), Group: anyNumber(r), Mask: anyNumber(r), Dir: anyNumber(r)}
		n := api.Node{Kind: api.NodeKind(r.Intn(6)), Mode: anyNumber(r), User: anyNumber(r), Group: anyNumber(r), Links: anyNumber(r), Time: anyNumber(r), Parent: anyNumber(r)}
		what := anyNumber(r)
		wantMay(t, n, e, what, slowMay(n, e, what))
		if perms.May(n, e, what) {
			may++
		}
		x := sample()
		if r.Intn(2) == 0 {
			x.Nodes[r.Intn(len(x.Nodes))] = n
		}
		good := tree.Check(x) && e.User>>16 == 0 && e.Group>>16 == 0 && e.Mask>>9 == 0 && (e.Dir == nRoot || e.Dir == nDir || e.Dir == nInner) && x.Nodes[e.Dir].Kind == api.NoDir
		wantCheck(t, x, e, good)
		if good {
			be++
		}
	}
	if may < 1000 || be < 1000 {
		t.Errorf("just %d times somebody may, and %d times may be", may, be)
	}
}

// R1: far beyond the limits no call takes long.
func TestFarBeyond(t *testing.T) {
	n := node(api.NoFile, 0o640)
	n.Data, n.List = make([]byte, 1<<26), make([]api.Entry, 1<<20)
	x := sample()
	for range 1 << 16 {
		x.Nodes = append(x.Nodes, n)
	}
	for range 1000 {
		wantMay(t, n, somebody(6, 7), 4, true)
		wantCheck(t, x, api.Env{Dir: 1}, false)
	}
}

// withRoom: a tree with something in the spare room of each list.
func withRoom(x api.Tree) api.Tree {
	x.Nodes = append(slices.Clone(x.Nodes), api.Node{Mode: 7, Data: []byte("spare")}, api.Node{Links: 3})[:len(x.Nodes)]
	for i := range x.Nodes {
		n := &x.Nodes[i]
		n.Data = append(slices.Clone(n.Data), "spare"...)[:len(n.Data)]
		n.List = append(slices.Clone(n.List), api.Entry{Name: "spare", Node: 9}, api.Entry{Name: "a", Node: 1})[:len(n.List)]
	}
	return x
}

// deepCopy: of a tree with its spare room.
func deepCopy(x api.Tree) api.Tree {
	out := api.Tree{Now: x.Now, Nodes: slices.Clone(x.Nodes[:cap(x.Nodes)])}
	for i, n := range out.Nodes {
		out.Nodes[i].Data = slices.Clone(n.Data[:cap(n.Data)])
		out.Nodes[i].List = slices.Clone(n.List[:cap(n.List)])
	}
	return out
}

// R4: what is handed in is not changed, its spare room neither; an empty list is as none.
func TestNotChanged(t *testing.T) {
	for _, now := range []int{0, -1} { // a tree that may be, and one that may not
		x := withRoom(sample())
		x.Now = now
		was := deepCopy(x)
		for dir := -1; dir <= len(x.Nodes); dir++ {
			perms.Check(x, api.Env{User: 5, Group: 7, Dir: dir})
		}
		for _, n := range x.Nodes {
			for what := range 9 {
				perms.May(n, somebody(what%2*5, 7), what)
				perms.Owns(n, somebody(what, 7))
			}
		}
		if is := deepCopy(x); !reflect.DeepEqual(is, was) {
			t.Errorf("changed: %+v, was %+v", is, was)
		}
	}
	for _, list := range [][]api.Entry{nil, {}} {
		for _, data := range [][]byte{nil, {}} {
			x := sample()
			x.Nodes[nFree].List, x.Nodes[nInner].List, x.Nodes[nInner].Data = list, list, data
			wantCheck(t, x, api.Env{Dir: nInner}, true)
		}
	}
	wantCheck(t, api.Tree{Nodes: []api.Node{}}, api.Env{Dir: 1}, false)
}

// R5: what is asked twice is answered alike, whatever was asked between; what is changed between is asked anew.
func TestAgain(t *testing.T) {
	x, n := sample(), node(api.NoFile, 420)
	for range 3 {
		wantCheck(t, x, api.Env{Dir: nInner}, true)
		x.Nodes[nFile].Links++
		wantCheck(t, x, api.Env{Dir: nInner}, false)
		x.Nodes[nFile].Links--
		wantMay(t, n, somebody(6, 7), 2, false)
		n.Mode |= 16
		wantMay(t, n, somebody(6, 7), 2, true)
		n.Mode &^= 16
	}
}
