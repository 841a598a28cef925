package xdr

import "granary/api"

// PutList: P1.9.
func PutList[T any](w *Writer, l []T, most int, each func(*Writer, T)) {
	if !w.length(len(l), most) {
		return
	}
values:
	for _, v := range l {
		each(w, v)
		if w.stuck() {
			break values
		}
	}
}

// List: P1.9. It makes no room ahead for as many as the bytes say: whoever
// sent them could ask for any room so.
func List[T any](r *Reader, most int, each func(*Reader) T) []T {
	var l []T
values:
	for range r.length(most) {
		v := each(r)
		if r.stuck() {
			l = nil
			break values
		}
		l = append(l, v)
	}
	return l
}

// PutChain: P1.10.
func PutChain[T any](w *Writer, l []T, each func(*Writer, T)) {
values:
	for _, v := range l {
		w.Bool(true)
		if w.stuck() {
			break values
		}
		each(w, v)
	}
	w.Bool(false)
}

// Chain: P1.10.
func Chain[T any](r *Reader, most int, each func(*Reader) T) []T {
	var l []T
values:
	for {
		at := r.At()
		switch more := r.Bool(); {
		case !more:
			break values
		case len(l) >= most:
			r.fail(api.ErrLong, at)
			break values
		}
		l = append(l, each(r))
	}
	if r.stuck() {
		return nil
	}
	return l
}

// PutOption: P1.11.
func PutOption[T any](w *Writer, v *T, each func(*Writer, T)) {
	if w.stuck() {
		return
	}
	w.Bool(v != nil)
	if v != nil {
		each(w, *v)
	}
}

// Option: P1.11.
func Option[T any](r *Reader, each func(*Reader) T) *T {
	if !r.Bool() {
		return nil
	}
	v := each(r)
	if r.stuck() {
		return nil
	}
	return &v
}
