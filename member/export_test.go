package member

// Held is how many sectors m keeps of what is seen and of what is durable: so that tests see that zero ones go.
func Held(m *Member) (seen, durable int) {
	return len(m.seen), len(m.durable)
}
