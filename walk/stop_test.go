package walk

import (
	"testing"

	"toolchest/api"
	"toolchest/tree"
)

// Steps that are not all taken: none is yielded behind the last one that is. (The language panics, if one is.)
func TestStop(t *testing.T) {
	x := tree.New()
	x.Nodes[1].List = []api.Entry{{Name: "a", Node: 2}, {Name: "c", Node: 4}}
	x.Nodes[1].Links = 3
	x.Nodes = append(x.Nodes,
		api.Node{Kind: api.NoDir, Mode: 0o755, Links: 2, Parent: 1, List: []api.Entry{{Name: "b", Node: 3}}},
		api.Node{Kind: api.NoFile, Links: 1},
		api.Node{Kind: api.NoFile, Links: 1})
	all, _, err := Walk(x, api.Env{Dir: 1}, "/", 9)
	if len(all) != 6 || err != api.OK {
		t.Fatalf("%v, %d", all, err)
	}
	w := trip{nodes: x.Nodes, env: api.Env{Dir: 1}, deepest: 9}
	for last := range all {
		i := 0
		for s := range w.from(all[0]) {
			if s != all[i] {
				t.Errorf("step %d: %v, want %v", i, s, all[i])
			}
			if i == last {
				break
			}
			i++
		}
		if i != last {
			t.Errorf("%d steps, want %d", i+1, last+1)
		}
	}
}
