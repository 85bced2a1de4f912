package tree

import "separatum/api"

// step is a node that is gone through, and which of its kids comes next.
type step struct {
	node *api.Node
	next int
}

// walk goes through x from above: enter is called of x, and of each kid in order (of nil, too), and tells whether to go into it; leave is called when all kids of one that was gone into are done. The way is kept in a slice, since a tree may be deeper than calls may be.
func walk(x *api.Node, enter func(*api.Node) bool, leave func()) {
	var way []step
	visit := func(n *api.Node) {
		if enter(n) {
			way = append(way, step{node: n})
		}
	}
	visit(x)
	for len(way) > 0 {
		top := &way[len(way)-1]
		if top.next == len(top.node.Kids) {
			way = way[:len(way)-1]
			leave()
			continue
		}
		top.next++
		visit(top.node.Kids[top.next-1])
	}
}

// rising is the nodes of x, each behind those below it, and once, however often it stands there; none, if x is nil, or if a node stands below itself: that is no tree, and no way through it would end.
func rising(x *api.Node) []*api.Node {
	const within, done = 1, 2
	var l, way []*api.Node
	state := map[*api.Node]int{}
	endless := false
	walk(x, func(n *api.Node) bool {
		endless = endless || state[n] == within
		if endless || n == nil || state[n] == done {
			return false
		}
		state[n] = within
		way = append(way, n)
		return true
	}, func() {
		n := way[len(way)-1]
		way = way[:len(way)-1]
		state[n] = done
		l = append(l, n)
	})
	if endless {
		return nil
	}
	return l
}

// fold is one more than what join makes of the kids' numbers, node by node, up to x; 0 of what has no nodes.
func fold(x *api.Node, join func(a, b int) int) int {
	made := map[*api.Node]int{}
	for _, n := range rising(x) {
		below := 0
		for _, k := range n.Kids {
			below = join(below, made[k])
		}
		made[n] = below + 1
	}
	return made[x]
}
