package record_test

import "reflect"

// places are the places of all numbers and truths of a value, and, if it is told, of the room behind its lists' ends.
func places(x reflect.Value, room bool) []reflect.Value {
	var l []reflect.Value
	switch x.Kind() {
	case reflect.Slice, reflect.Array:
		if room && x.Kind() == reflect.Slice {
			x = x.Slice(0, x.Cap())
		}
		for i := range x.Len() {
			l = append(l, places(x.Index(i), room)...)
		}
	case reflect.Struct:
		for i := range x.NumField() {
			l = append(l, places(x.Field(i), room)...)
		}
	default:
		l = append(l, x)
	}
	return l
}

// turn changes what stands at a place.
func turn(place reflect.Value, by int) {
	switch {
	case place.Kind() == reflect.Bool:
		place.SetBool(!place.Bool())
	case place.CanInt():
		place.SetInt(place.Int() + int64(by))
	default:
		place.SetUint(place.Uint() + uint64(by))
	}
}

// alike tells whether two values have the same in all of their places, nil lists being like empty ones.
func alike(a, b any) bool {
	return alikeValues(reflect.ValueOf(a), reflect.ValueOf(b))
}

func alikeValues(a, b reflect.Value) bool {
	switch a.Kind() {
	case reflect.Slice, reflect.Array:
		if a.Len() != b.Len() {
			return false
		}
		for i := range a.Len() {
			if !alikeValues(a.Index(i), b.Index(i)) {
				return false
			}
		}
		return true
	case reflect.Struct:
		for i := range a.NumField() {
			if !alikeValues(a.Field(i), b.Field(i)) {
				return false
			}
		}
		return true
	}
	return a.Equal(b)
}

// clone is the same in new memory, with so much room behind each list; no list is nil.
func clone[T any](x T, room int) T {
	out := x
	cloneInto(reflect.ValueOf(&out).Elem(), reflect.ValueOf(x), room)
	return out
}

func cloneInto(out, x reflect.Value, room int) {
	switch x.Kind() {
	case reflect.Slice:
		out.Set(reflect.MakeSlice(x.Type(), x.Len(), x.Len()+room))
		fallthrough
	case reflect.Array:
		for i := range x.Len() {
			cloneInto(out.Index(i), x.Index(i), room)
		}
	case reflect.Struct:
		for i := range x.NumField() {
			cloneInto(out.Field(i), x.Field(i), room)
		}
	default:
		out.Set(x)
	}
}

// seen is what stands at all places of a value, and in the room behind its lists' ends.
func seen(x any) []any {
	var l []any
	for _, place := range places(reflect.ValueOf(x), true) {
		l = append(l, place.Interface())
	}
	return l
}

// spoil writes into all lists of a value, and into the room behind their ends.
func spoil(x any) {
	for _, place := range places(reflect.ValueOf(x), true) {
		if place.CanSet() {
			turn(place, 77)
		}
	}
}

// sharesWithin tells whether two lists of a value share memory, the room behind their ends too.
func sharesWithin(x any) bool {
	return sharesWith(reflect.ValueOf(x), map[uintptr]bool{})
}

func sharesWith(x reflect.Value, met map[uintptr]bool) bool {
	switch x.Kind() {
	case reflect.Slice:
		x = x.Slice(0, x.Cap())
		for i := range x.Len() {
			at := x.Index(i).Addr().Pointer()
			if met[at] {
				return true
			}
			met[at] = true
		}
		fallthrough
	case reflect.Array:
		for i := range x.Len() {
			if sharesWith(x.Index(i), met) {
				return true
			}
		}
	case reflect.Struct:
		for i := range x.NumField() {
			if sharesWith(x.Field(i), met) {
				return true
			}
		}
	}
	return false
}
