package bus

// StepsLeft is how many steps b still keeps: so that tests see that those that are done go.
func StepsLeft(b *Bus) (left int) {
	for _, l := range b.steps {
		left += len(l)
	}
	return left
}
