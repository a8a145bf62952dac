package ring

// fewest places are kept, however few numbers there are: one that comes and goes alone shall not move the queue each time.
const fewest = 8

// queue is numbers in places that go round: behind the last place comes the first one again, so that no number has to move when one is taken.
type queue struct {
	most   int // the cap; there may be more numbers, if it was greater once
	places []int
	first  int // the place of the first number
	count  int // so many numbers, in places one behind the other
}

// room tells how many more numbers there may be.
func (q *queue) room() int {
	return max(q.most-q.count, 0)
}

// round goes round the places that have numbers, the first number's place first, and shows each of them.
func (q *queue) round(show func(at int)) {
	for i := range q.count {
		show(q.place(i))
	}
}

// place tells where the i-th number behind the first one stands, or would stand.
func (q *queue) place(i int) int {
	return (q.first + i) % len(q.places)
}

// put adds a number behind all others.
func (q *queue) put(n int) {
	if q.count == len(q.places) {
		q.move(max(2*q.count, fewest))
	}
	q.places[q.place(q.count)] = n
	q.count++
}

// take takes out the first number.
func (q *queue) take() int {
	n := q.places[q.first]
	q.first = q.place(1)
	q.less()
	return n
}

// drop takes out the first n, and tells whether there was one.
func (q *queue) drop(n int) bool {
	if !closeUp(q.places, q.round, n) {
		return false
	}
	q.less()
	return true
}

// less counts one number less. Places that are three quarters empty are given back by halves: half of what is left is room then, and no next number moves the queue again.
func (q *queue) less() {
	q.count--
	if size := len(q.places); size > fewest && q.count <= size/4 {
		q.move(size / 2)
	}
}

// move lays the numbers into so many new places, from the first one on.
func (q *queue) move(size int) {
	moved := gather(make([]int, 0, size), q.places, q.round)
	q.places, q.first = moved[:size], 0
}

// gather puts behind all the numbers of the places, as they are gone round.
func gather(all, places []int, round func(show func(at int))) []int {
	round(func(at int) {
		all = append(all, places[at])
	})
	return all
}

// closeUp lets the numbers behind the first n move up by one place, the first of them over that n, and tells whether there is an n. What stands in the last place counts no more then.
func closeUp(places []int, round func(show func(at int)), n int) bool {
	gap, found := 0, false
	round(func(at int) {
		if found {
			places[gap], gap = places[at], at
		} else if places[at] == n {
			gap, found = at, true
		}
	})
	return found
}
