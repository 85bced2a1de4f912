package unit

import "separatum/api"

// imported is the modules that are imported by a unit's kids, in order, each once.
func imported(kids []*api.Node) []string {
	var l []string
	seen := map[string]struct{}{}
	for _, name := range named(kids) {
		if _, ok := seen[name]; !ok {
			seen[name] = struct{}{}
			l = append(l, name)
		}
	}
	return l
}

// named is the modules that a unit's kids name, as often as they do. A tree that no source was read for may have kids that are nil.
func named(kids []*api.Node) []string {
	var l []string
	for _, x := range kids {
		switch {
		case x == nil:
		case x.Kind == api.NodeFrom:
			l = append(l, x.Name)
		case x.Kind == api.NodeImport:
			l = append(l, names(x.Kids)...)
		}
	}
	return l
}

// names is the names that stand in a list.
func names(kids []*api.Node) []string {
	var l []string
	for _, x := range kids {
		if x != nil && x.Kind == api.NodeName {
			l = append(l, x.Name)
		}
	}
	return l
}
