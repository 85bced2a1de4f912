package types

import "separatum/api"

// copied is x, with lists of its own.
func copied(x api.Type) api.Type {
	x.Names = copies(x.Names, same)
	x.Fields = copies(x.Fields, same)
	x.Arms = copies(x.Arms, arm)
	x.Params = copies(x.Params, same)
	return x
}

// copies is a list of the copies of l's elements.
func copies[E any](l []E, one func(E) E) []E {
	if len(l) == 0 {
		return nil
	}
	c := make([]E, len(l))
	for i, x := range l {
		c[i] = one(x)
	}
	return c
}

// same is the copy of what has no lists.
func same[E any](x E) E { return x }

// arm is the copy of an arm.
func arm(a api.Arm) api.Arm {
	a.From = copies(a.From, same)
	a.To = copies(a.To, same)
	return a
}
