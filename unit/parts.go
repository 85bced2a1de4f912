package unit

import (
	"separatum/api"
	"separatum/decl"
	"separatum/tree"
)

// part is what a kind of units has behind its imports; false, where a token can't stand.
type part func() (kids []*api.Node, ok bool)

// unit is the unit that the row is; nil, where a token can't stand.
func (r *reader) unit() *api.Node {
	at := r.here().Pos
	kind := api.NodeProg
	switch r.word() {
	case "DEFINITION":
		r.at++
		return r.module(api.NodeDef, at, r.decls)
	case "IMPLEMENTATION":
		r.at++
		kind = api.NodeImpl
		fallthrough
	case "MODULE":
		return r.module(kind, at, r.block)
	}
	return nil
}

// module is a unit, from MODULE on, that begins at a place; nil, where a token can't stand.
func (r *reader) module(kind uint8, at complex128, inner part) *api.Node {
	name, ok := r.head()
	if !ok {
		return nil
	}
	l, ok := r.imports()
	if !ok {
		return nil
	}
	kids, ok := inner()
	if !ok || !r.closes(name) {
		return nil
	}
	return tree.New(kind, at, name, 0, append(l, kids...)...)
}

// head is the unit's name, between MODULE and the semicolon; false, where a token can't stand.
func (r *reader) head() (name string, ok bool) {
	if !r.takes(api.TokWord, "MODULE") {
		return "", false
	}
	name, ok = r.name()
	return name, ok && r.takes(api.TokSym, ";")
}

// imports is the imports that stand here; false, where a token can't stand.
func (r *reader) imports() (l []*api.Node, ok bool) {
	for r.word() == "IMPORT" || r.word() == "FROM" {
		x := r.oneImport()
		if x == nil {
			return nil, false
		}
		l = append(l, x)
	}
	return l, true
}

// oneImport is the import that stands here; nil, where a token can't stand.
func (r *reader) oneImport() *api.Node {
	at := r.here().Pos
	if !r.takes(api.TokWord, "FROM") {
		return r.list(api.NodeImport, at, "")
	}
	name, ok := r.name()
	if !ok {
		return nil
	}
	return r.list(api.NodeFrom, at, name)
}

// list is IMPORT, names with commas between, and a semicolon, as a node that begins at a place; nil, where a token can't stand.
func (r *reader) list(kind uint8, at complex128, module string) *api.Node {
	if !r.takes(api.TokWord, "IMPORT") {
		return nil
	}
	var l []*api.Node
	for {
		at := r.here().Pos
		name, ok := r.name()
		if !ok {
			return nil
		}
		l = append(l, tree.New(api.NodeName, at, name, 0))
		if !r.takes(api.TokSym, ",") {
			break
		}
	}
	if !r.takes(api.TokSym, ";") {
		return nil
	}
	return tree.New(kind, at, module, 0, l...)
}

// decls is a definition's declarations, and END.
func (r *reader) decls() (kids []*api.Node, ok bool) {
	kids, next, e := decl.Decls(r.row, r.at, true)
	r.at = next
	return kids, e == api.OK && r.takes(api.TokWord, "END")
}

// block is the block of an implementation, or of a program.
func (r *reader) block() (kids []*api.Node, ok bool) {
	x, next, e := decl.Block(r.row, r.at)
	r.at = next
	return []*api.Node{x}, e == api.OK
}

// closes tells whether the unit's name stands here, a dot, and the end.
func (r *reader) closes(name string) bool {
	return r.takes(api.TokName, name) && r.takes(api.TokSym, ".") && r.here().Kind == api.TokEnd
}
