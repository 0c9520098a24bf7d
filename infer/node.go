package infer

import "reprise/api"

// room is how much room a type takes: its nodes, how many of them lie within each other, and the labels of its longest row. Of more nodes than a type may have, it is only known that there are more: shared nodes count wherever they occur.
type room struct{ size, depth, labels int }

// around returns the room of a node that has one more part.
func (r room) around(part room) room {
	return room{min(r.size+part.size, api.MaxSize+1), max(r.depth, part.depth+1), max(r.labels, part.labels)}
}

// fits reports whether there is so much room.
func (r room) fits() bool {
	return r.size <= api.MaxSize && r.depth <= api.MaxDepth && r.labels <= 2*api.MaxDecls
}

// shape is a type whose parts are nodes: a variable, which has nothing else, or what its kind says.
type shape struct {
	kind  api.TypeKind
	name  string  // of a data type
	parts []*node // the arguments of a data type, or the argument and the result of a function
	row   row     // of a function
}

// node is a type in a graph. It stands for the shape that it embeds, and once it is put below another node, for what that one stands for.
type node struct {
	shape
	up      *node
	general bool // it is a general variable, or has one within
	written room // as it was made: a variable takes the room of one node
	held    room // with all that variables stood for when it was measured
	settled bool // it has been measured, and no variable within can be bound any more
	seen    int  // the last round in which it was come upon
	left    int  // the last round in which it was measured
}

// newNode returns the node of a shape.
func newNode(s shape) *node {
	n := &node{shape: s, written: room{1, 1, len(s.row.labels)}}
	for _, part := range s.parts {
		n.written = n.written.around(part.written)
	}
	n.general = n.hasGeneral()
	return n
}

// newVariable returns a type variable that is not used yet.
func newVariable() *node { return newNode(shape{kind: api.TVar}) }

// leaf returns a type that has no parts.
func leaf(kind api.TypeKind) *node { return newNode(shape{kind: kind}) }

// function returns a function type.
func function(argument *node, r row, result *node) *node {
	return newNode(shape{kind: api.TFun, parts: []*node{argument, result}, row: r})
}

// rowType returns the type that stands for a row in an equation.
func rowType(r row) *node { return function(leaf(api.TUnit), r, leaf(api.TUnit)) }

// hasGeneral reports whether a part, or the tail of the row, is general or has something general within.
func (s shape) hasGeneral() bool {
	general := s.row.tail != nil && s.row.tail.general
	for _, part := range s.parts {
		general = general || part.general
	}
	return general
}

// root returns the node that tells what a node stands for. It shortens the way to it.
func (n *node) root() *node {
	for n.up != nil {
		if n.up.up != nil {
			n.up = n.up.up
		}
		n = n.up
	}
	return n
}

// with returns a node like this one with other parts and another row, and this one if they are no others.
func (n *node) with(parts []*node, r row) *node {
	same := r.tail == n.row.tail
	for i, part := range parts {
		same = same && part == n.parts[i]
	}
	if !same {
		return newNode(shape{kind: n.kind, name: n.name, parts: parts, row: r})
	}
	n.general = n.hasGeneral()
	return n
}
