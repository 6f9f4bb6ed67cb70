package hall

// joint is an error with others that came up behind it. It wraps the first one alone, since a call tells one number;
// the others stand in its text.
type joint struct {
	first error
	text  string
}

func (j joint) Error() string { return j.text }

func (j joint) Unwrap() error { return j.first }

// joined makes one error of all that are not nil: nil of none, and of a single one just that one.
func joined(errs ...error) error {
	var all error
	for _, err := range errs {
		switch {
		case err == nil:
		case all == nil:
			all = err
		default:
			all = joint{all, all.Error() + ", " + err.Error()}
		}
	}
	return all
}
