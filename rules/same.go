package rules

import (
	"slices"

	"haberdash/api"
)

// Same tells whether a and b are the same: all fields, the elements of lists one by one. It may be asked of any rules, also of ones that are not right.
func Same(a, b api.Rules) bool {
	return fields{
		func() bool { return slices.Equal(a.Items, b.Items) },
		func() bool { return slices.EqualFunc(a.Promos, b.Promos, samePromo) },
		func() bool { return sameTax(a.Tax, b.Tax) },
		func() bool { return a.Ship == b.Ship },
		func() bool { return samePolicy(a.Policy, b.Policy) },
	}.same()
}

// fields is, for each field of two things, what tells whether it is the same in both.
type fields []func() bool

// same tells whether all of them are.
func (l fields) same() bool {
	for _, is := range l {
		if !is() {
			return false
		}
	}
	return true
}

func samePromo(a, b api.Promo) bool {
	return fields{
		func() bool { return a.Id == b.Id },
		func() bool { return a.Kind == b.Kind },
		func() bool { return a.Priority == b.Priority },
		func() bool { return a.Group == b.Group },
		func() bool { return a.Code == b.Code },
		func() bool { return a.Closes == b.Closes },
		func() bool { return sameScope(a.Scope, b.Scope) },
		func() bool { return a.Least == b.Least },
		func() bool { return a.Rate == b.Rate },
		func() bool { return a.Amount == b.Amount },
		func() bool { return a.Buy == b.Buy },
		func() bool { return a.Get == b.Get },
		func() bool { return slices.EqualFunc(a.Parts, b.Parts, samePart) },
		func() bool { return slices.Equal(a.Tiers, b.Tiers) },
	}.same()
}

func sameScope(a, b api.Scope) bool {
	return fields{
		func() bool { return slices.Equal(a.Skus, b.Skus) },
		func() bool { return slices.Equal(a.Categories, b.Categories) },
	}.same()
}

func samePart(a, b api.Part) bool {
	return fields{
		func() bool { return sameScope(a.Scope, b.Scope) },
		func() bool { return a.Count == b.Count },
	}.same()
}

func sameTax(a, b api.Tax) bool {
	return fields{
		func() bool { return a.Inclusive == b.Inclusive },
		func() bool { return a.ByOrder == b.ByOrder },
		func() bool { return a.Round == b.Round },
		func() bool { return slices.EqualFunc(a.Zones, b.Zones, sameZone) },
	}.same()
}

func sameZone(a, b api.Zone) bool {
	return fields{
		func() bool { return a.Name == b.Name },
		func() bool { return slices.Equal(a.Rates, b.Rates) },
		func() bool { return a.Rest == b.Rest },
		func() bool { return a.Ship == b.Ship },
	}.same()
}

func samePolicy(a, b api.Policy) bool {
	return fields{
		func() bool { return a.Window == b.Window },
		func() bool { return a.Grace == b.Grace },
		func() bool { return a.Mode == b.Mode },
		func() bool { return a.Restock == b.Restock },
		func() bool { return slices.Equal(a.Order, b.Order) },
		func() bool { return slices.Equal(a.Credit, b.Credit) },
	}.same()
}
