package unit

import (
	"latecomer/api"
	"latecomer/rational"
)

// operation is something that is done with two quantities: what it makes of their values, and what of their units. The two are apart, so that a unit cannot depend on a value.
type operation[V any] struct {
	values func(a, b api.Ratio) (V, api.Errno)
	units  func(a, b api.Unit) (api.Unit, api.Errno)
}

// apply returns what op makes of the values and of the units of a and b.
func apply[V any](op operation[V], a, b api.Quantity) (V, api.Unit, api.Errno) {
	var none V
	if !Valid(a) || !Valid(b) {
		return none, api.Unit{}, api.ErrUnit
	}
	unit, err := op.units(a.Unit, b.Unit)
	if err != api.OK {
		return none, api.Unit{}, api.ErrUnit
	}
	value, err := op.values(a.Value, b.Value)
	if err != api.OK {
		return none, api.Unit{}, api.ErrUnit
	}
	return value, unit, api.OK
}

// compare is rational.Compare as an operation with values, which never fails.
func compare(a, b api.Ratio) (int, api.Errno) { return rational.Compare(a, b), api.OK }

// same returns the unit that a and b both are.
func same(a, b api.Unit) (api.Unit, api.Errno) {
	if a != b {
		return api.Unit{}, api.ErrUnit
	}
	return a, api.OK
}

// product returns the unit of a product.
func product(a, b api.Unit) (api.Unit, api.Errno) {
	return api.Unit{Time: a.Time + b.Time, Byte: a.Byte + b.Byte, Money: a.Money + b.Money, Count: a.Count + b.Count}, api.OK
}

// quotient returns the unit of a quotient.
func quotient(a, b api.Unit) (api.Unit, api.Errno) {
	return api.Unit{Time: a.Time - b.Time, Byte: a.Byte - b.Byte, Money: a.Money - b.Money, Count: a.Count - b.Count}, api.OK
}
