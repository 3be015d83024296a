package gossip

import "sync"

const maxRounds = 1000 // of one settling

// settle lets all talk until nobody has anything to say: how many messages were told.
func (n *Net) settle() int {
	for _, x := range n.nodes {
		x.greet()
	}
	told := make(chan []byte)
	count := 0
	var gathering sync.WaitGroup
	gathering.Add(1)
	go func() {
		defer gathering.Done()
		for range told {
			count++
		}
	}()
	for range maxRounds {
		if !n.round(told) {
			break
		}
	}
	close(told)
	gathering.Wait()
	return count
}

// round lets each tell each other one what it has to say, which arrives at once; false, if nobody has told anything.
func (n *Net) round(told chan<- []byte) bool {
	spoke := false
	for a := range n.nodes {
		for b := range n.nodes {
			if a == b {
				continue
			}
			if said, is := n.nodes[a].tells(b); is {
				told <- said
				n.arrive(a, b, said)
				spoke = true
			}
		}
	}
	return spoke
}
