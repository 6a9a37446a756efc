package selection

import (
	"slices"

	"configlang/api"
	"configlang/digraph"
	"configlang/manifest"
	"configlang/semver"
)

// graph is all modules of a registry and those that are required, with what their manifests in the registry require.
type graph struct {
	modules  []api.Module
	index    map[api.Module]int // the node of each module
	requires [][]int
	known    []bool // whether the registry has a module
}

// greatestVersions is the greatest of some versions of each path.
type greatestVersions map[string]api.Version

// resolve returns the graph of a valid registry and a root, and the build list of the root.
func resolve(r []api.Manifest, root api.Manifest) (*graph, []api.Module, api.Errno) {
	if e := Check(r); e != api.OK {
		return nil, nil, e
	}
	if e := manifest.Check(root); e != api.OK {
		return nil, nil, e
	}
	g := newGraph(r)
	from := g.nodes(root.Requires)
	needed := digraph.Reach(g.requires, from)
	greatest := greatestVersions{}
	for n, m := range g.modules {
		if !needed[n] || m.Path == root.Module.Path {
			continue
		}
		if !g.known[n] {
			return nil, nil, api.ErrNone
		}
		greatest.add(m)
	}
	return g, append([]api.Module{root.Module}, greatest.list()...), api.OK
}

// newGraph returns the graph of a valid registry.
func newGraph(r []api.Manifest) *graph {
	g := &graph{index: map[api.Module]int{}}
	for _, m := range r {
		n := g.node(m.Module)
		g.known[n] = true
		next := g.nodes(m.Requires)
		g.requires[n] = next
	}
	return g
}

// node returns the node of a module, which is added if there is none.
func (g *graph) node(m api.Module) int {
	n, ok := g.index[m]
	if !ok {
		n = len(g.modules)
		g.index[m] = n
		g.modules = append(g.modules, m)
		g.requires = append(g.requires, nil)
		g.known = append(g.known, false)
	}
	return n
}

// nodes returns the nodes of modules.
func (g *graph) nodes(l []api.Module) []int {
	var nodes []int
	for _, m := range l {
		nodes = append(nodes, g.node(m))
	}
	return nodes
}

// compare compares the modules of two nodes.
func (g *graph) compare(n, m int) int {
	return manifest.Compare(g.modules[n], g.modules[m])
}

// nearest returns the least of those nodes that are nearest to a goal; one of them has a distance.
func (g *graph) nearest(nodes []int, left []int) int {
	var best []int
	for _, n := range nodes {
		switch {
		case left[n] < 0 || len(best) > 0 && left[n] > left[best[0]]:
			continue
		case len(best) > 0 && left[n] < left[best[0]]:
			best = nil
		}
		best = append(best, n)
	}
	return slices.MinFunc(best, g.compare)
}

// changeable returns the error of a module whose requirement by the root shall be changed.
func (g *graph) changeable(root api.Manifest, m api.Module) api.Errno {
	n, ok := g.index[m]
	switch {
	case !ok || !g.known[n]:
		return api.ErrNone
	case m.Path == root.Module.Path:
		return api.ErrTwice
	}
	return api.OK
}

// add adds a version of a path.
func (v greatestVersions) add(m api.Module) {
	if old, ok := v[m.Path]; !ok || semver.Compare(old, m.Version) < 0 {
		v[m.Path] = m.Version
	}
}

// list returns the modules in ascending order.
func (v greatestVersions) list() []api.Module {
	var l []api.Module
	for path, version := range v {
		l = append(l, api.Module{Path: path, Version: version})
	}
	return sorted(l)
}

// sorted returns the modules in ascending order.
func sorted(l []api.Module) []api.Module {
	slices.SortFunc(l, manifest.Compare)
	return l
}
