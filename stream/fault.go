package stream

// fault is what is thrown where an error is met. It has no place: that is known where it is caught.
type fault struct{ err error }

func throw(err error) { panic(fault{err}) }

// check throws an error, unless all is right.
func check(right bool, err error) {
	if !right {
		throw(err)
	}
}

// attempt does what may throw a fault, and tells the fault's error. A panic of another kind is not the stream's doing, and goes on.
func attempt(work func()) (err error) {
	defer func() {
		switch x := recover().(type) {
		case nil:
		case fault:
			err = x.err
		default:
			panic(x)
		}
	}()
	work()
	return nil
}
