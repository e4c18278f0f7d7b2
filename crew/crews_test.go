package crew_test

import (
	"slices"
	"sync"
	"testing"

	"dunnage/api"
	"dunnage/crew"
)

// bookOf returns a book with orders in some states, all of the first pick and the first drop.
func bookOf(states ...uint8) api.Book {
	var b api.Book
	for i, state := range states {
		o := api.Order{Id: i + 1, State: state}
		switch state {
		case api.OrderQueued:
			b.Queue = append(b.Queue, o.Id)
		case api.OrderDone:
			o.Done = 1
		}
		b.Orders = append(b.Orders, o)
	}
	return b
}

// crewOf returns a crew with some robots, of which those that are on a leg is the Mover.
func crewOf(b api.Book, robots ...api.Robot) api.Crew {
	w := api.Crew{Robots: robots, Book: b, Mover: -1}
	for n, r := range robots {
		if r.State == api.RobotToPick || r.State == api.RobotToDrop || r.State == api.RobotToHome {
			w.Mover = n
		}
	}
	return w
}

// busyTick is the tick of busyCrew: tenant 1 may be on aisles in this one and the next five.
const busyTick = 15

// busyCrew returns a valid crew of crowdScene: its robot 0 is on an aisle on the way to a drop, robot 1 is loading, and robot 2 is called.
func busyCrew() api.Crew {
	b := bookOf(api.OrderCarrying, api.OrderAssigned, api.OrderDone, api.OrderCancelled, api.OrderAssigned, api.OrderQueued, api.OrderQueued)
	b.Orders[0].Drop = 1
	b.Orders[1].Pick = 1
	b.Count = api.Count{Window: 3, Many: 7}
	return crewOf(b,
		api.Robot{Place: 20, State: api.RobotToDrop, Order: 1},
		api.Robot{Place: 38, State: api.RobotLoading, Order: 2, Left: 2},
		api.Robot{Place: 33, State: api.RobotCalled, Order: 5})
}

// variant is a crew with something changed.
type variant struct {
	what string
	w    api.Crew
	tick uint64
}

// goodVariants returns crews that are valid in crowdScene.
func goodVariants() []variant {
	all := []variant{{"the crew", busyCrew(), busyTick}, {"the crew later", busyCrew(), busyTick + 4}}
	add := func(what string, change func(w *api.Crew)) {
		all = append(all, variant{what, changed(busyCrew(), change), busyTick})
	}
	robot := func(what string, n int, r api.Robot) { add(what, func(w *api.Crew) { w.Robots[n] = r }) }
	robot("due on an aisle", 0, api.Robot{Place: 20, State: api.RobotToDrop, Order: 1, Due: true})
	robot("held on the way", 0, api.Robot{Place: 30, State: api.RobotToDrop, Order: 1, Stall: 13})
	robot("at its goal already", 0, api.Robot{Place: 29, State: api.RobotToDrop, Order: 1})
	robot("on the way at a spot", 0, api.Robot{Place: 24, State: api.RobotToDrop, Order: 1})
	robot("on the way at the home of another robot", 0, api.Robot{Place: 32, State: api.RobotToDrop, Order: 1})
	robot("work that has all ticks left", 1, api.Robot{Place: 38, State: api.RobotLoading, Order: 2, Left: 3})
	robot("work that has a tick left", 1, api.Robot{Place: 38, State: api.RobotLoading, Order: 2, Left: 1, Stall: 1})
	robot("due at home", 2, api.Robot{Place: 33, State: api.RobotCalled, Order: 5, Due: true})
	add("nothing but an empty robot, and one that goes home", func(w *api.Crew) {
		w.Book = bookOf(api.OrderDone)
		w.Robots[0] = api.Robot{Place: 20, State: api.RobotToHome}
		w.Robots[1] = api.Robot{Place: 34, State: api.RobotEmpty}
		w.Robots[2] = api.Robot{Place: 33}
	})
	add("all at rest", func(w *api.Crew) {
		w.Book, w.Mover = api.Book{}, -1
		w.Robots = []api.Robot{{Place: 24}, {Place: 32}, {Place: 33}}
	})
	return all
}

// badVariants returns crews that are not valid in crowdScene, each for one reason.
func badVariants() []variant {
	var all []variant
	add := func(what string, change func(w *api.Crew)) {
		all = append(all, variant{what, changed(busyCrew(), change), busyTick})
	}
	robot := func(what string, n int, change func(r *api.Robot)) {
		add(what, func(w *api.Crew) { change(&w.Robots[n]) })
	}
	add("no robots", func(w *api.Crew) { w.Robots = nil })
	add("a robot too few", func(w *api.Crew) { w.Robots, w.Book.Orders[4].State = w.Robots[:2], api.OrderCancelled })
	add("a robot too many", func(w *api.Crew) { w.Robots = append(w.Robots, api.Robot{Place: 26, State: api.RobotEmpty}) })
	add("robots in another order", func(w *api.Crew) { w.Robots[1], w.Robots[2] = w.Robots[2], w.Robots[1] })
	for _, p := range append([]int{-1, 64, 0, 33, 38, 63}, hugeNumbers...) {
		robot("a wrong place of the Mover", 0, func(r *api.Robot) { r.Place = p })
	}
	for _, p := range append([]int{-1, 64, 31, 37, 39, 24, 21}, hugeNumbers...) {
		robot("a wrong place of one that is loading", 1, func(r *api.Robot) { r.Place = p })
		robot("a wrong place of one that is called", 2, func(r *api.Robot) { r.Place = p })
	}
	for _, state := range []uint8{0, 1, 2, 3, 4, 6, 7, 8, 9, 10, 255} {
		robot("another state of the Mover", 0, func(r *api.Robot) { r.State = state })
	}
	for _, state := range []uint8{0, 2, 3, 4, 5, 6, 7, 8, 9, 13, 255} {
		robot("another state of one that is called", 2, func(r *api.Robot) { r.State = state })
	}
	for _, id := range append([]int{-1, 0, 2, 3, 4, 5, 6, 7, 8, 64, 65}, hugeNumbers...) {
		robot("another order of the Mover", 0, func(r *api.Robot) { r.Order = id })
	}
	for _, id := range append([]int{-1, 0, 1, 2, 3, 4, 6, 8}, hugeNumbers...) {
		robot("another order of one that is called", 2, func(r *api.Robot) { r.Order = id })
	}
	for _, n := range append([]int{-1, 1}, hugeNumbers...) {
		robot("work of the Mover", 0, func(r *api.Robot) { r.Left = n })
		robot("work of one that is called", 2, func(r *api.Robot) { r.Left = n })
	}
	for _, n := range append([]int{-1, 0, 4, 8}, hugeNumbers...) {
		robot("work of one that is loading", 1, func(r *api.Robot) { r.Left = n })
	}
	for _, n := range append([]int{-1, 14, 16}, hugeNumbers...) {
		robot("a stall", 1, func(r *api.Robot) { r.Stall = n })
	}
	for _, n := range []int{1, 13} {
		robot("a stall on an aisle", 0, func(r *api.Robot) { r.Stall = n })
		robot("a stall of one that is due", 1, func(r *api.Robot) { r.Stall, r.Due = n, true })
	}
	return slices.Concat(all, badBooks(), badMovers())
}

// badBooks returns crews that are not valid in crowdScene for their books.
func badBooks() []variant {
	var all []variant
	add := func(what string, change func(w *api.Crew)) {
		all = append(all, variant{what, changed(busyCrew(), change), busyTick})
	}
	add("a book that is not valid", func(w *api.Crew) { w.Book.Queue = nil })
	add("a count that is not valid", func(w *api.Crew) { w.Book.Count.Many = 17 })
	add("an order of a pick that is none", func(w *api.Crew) { w.Book.Orders[2].Pick = 3 })
	add("no book", func(w *api.Crew) { w.Book = api.Book{} })
	for _, state := range []uint8{api.OrderAssigned, api.OrderCarrying} {
		add("an order without a robot", func(w *api.Crew) { w.Book.Orders[3].State = state })
	}
	add("the order of a robot assigned, not carrying", func(w *api.Crew) { w.Book.Orders[0].State = api.OrderAssigned })
	add("the order of a robot carrying, not assigned", func(w *api.Crew) { w.Book.Orders[1].State = api.OrderCarrying })
	add("the order of a robot of another pick", func(w *api.Crew) { w.Book.Orders[1].Pick = 0 })
	add("two robots with one order", func(w *api.Crew) {
		w.Robots[1] = api.Robot{Place: 32, State: api.RobotCalled, Order: 5}
		w.Book.Orders[1].State = api.OrderCancelled
	})
	add("an unloading robot at another drop", func(w *api.Crew) {
		w.Book.Orders[1].State = api.OrderCarrying
		w.Robots[1] = api.Robot{Place: 34, State: api.RobotUnloading, Order: 2, Left: 1}
	})
	return all
}

// badMovers returns crews that are not valid in crowdScene for their Movers.
func badMovers() []variant {
	var all []variant
	add := func(what string, tick uint64, change func(w *api.Crew)) {
		all = append(all, variant{what, changed(busyCrew(), change), tick})
	}
	for _, n := range append([]int{-2, -1, 1, 2, 3}, hugeNumbers...) {
		add("another Mover", busyTick, func(w *api.Crew) { w.Mover = n })
	}
	add("a second robot on a leg", busyTick, func(w *api.Crew) { w.Robots[2].State = api.RobotToPick })
	for n := range 3 {
		add("a Mover that is not on a leg", busyTick, func(w *api.Crew) {
			w.Book, w.Mover = api.Book{}, n
			w.Robots = []api.Robot{{Place: 24}, {Place: 32}, {Place: 33}}
		})
	}
	add("a robot at the Mover's goal", busyTick, func(w *api.Crew) {
		w.Robots[2], w.Book.Orders[4].State = api.Robot{Place: 29, State: api.RobotEmpty}, api.OrderCancelled
	})
	for _, tick := range []uint64{busyTick + 5, busyTick + 7, busyTick + 13 + 5} {
		add("a Mover without a route from this tick on", tick, func(w *api.Crew) {})
	}
	for _, tick := range []uint64{busyTick - 1, busyTick - 2, busyTick + 6, busyTick + 8} {
		add("a Mover on an aisle in a slice of another one", tick, func(w *api.Crew) {})
	}
	return all
}

// sample is a crew of a scene at a tick, valid or not.
type sample struct {
	x    scene
	w    api.Crew
	tick uint64
}

// drawnSample returns a crew that is likely to be valid, but would not always come about.
func drawnSample(x scene, seed int) sample {
	draw := drawer(seed)
	m, tick := x.c.Teams[x.t], uint64(draw(40))
	w := api.Crew{Robots: make([]api.Robot, len(m.Homes)), Mover: -1}
	for _, n := range drawnOrder(draw, len(m.Homes)) {
		for range draw(4) {
			drawOrder(draw, m, &w.Book, []uint8{1, 1, 4, 5}[draw(4)])
		}
		w.Robots[n] = drawnRobot(draw, x, &w, n)
	}
	for range draw(3) {
		drawOrder(draw, m, &w.Book, 1)
	}
	w.Book.Count = api.Count{Window: uint64(draw(5)), Many: draw(m.Quota + 1)}
	return sample{x, w, tick}
}

// drawOrder puts an order with a state into a book, and returns it; one that does not fit into the queue is cancelled.
func drawOrder(draw func(limit int) int, m api.Team, b *api.Book, state uint8) api.Order {
	o := api.Order{Id: len(b.Orders) + 1, Pick: draw(len(m.Picks)), Drop: draw(len(m.Drops)), State: state, At: uint64(draw(50))}
	switch {
	case state == 1 && len(b.Queue) == m.Queue:
		o.State = 5
	case state == 1:
		b.Queue = append(b.Queue, o.Id)
	case state == 4:
		o.Done = uint64(1 + draw(50))
	}
	b.Orders = append(b.Orders, o)
	return o
}

// drawnRobot returns the robot n of a crew, and puts its order into the book.
func drawnRobot(draw func(limit int) int, x scene, w *api.Crew, n int) api.Robot {
	m := x.c.Teams[x.t]
	r := api.Robot{State: uint8(draw(9)), Due: draw(5) == 0}
	if isOnLeg := r.State%3 == 2; isOnLeg && w.Mover == -1 {
		w.Mover = n
	} else if isOnLeg {
		r.State -= 2
	}
	var o api.Order
	switch r.State {
	case 1, 2, 3:
		o = drawOrder(draw, m, &w.Book, 2)
	case 4, 5, 6:
		o = drawOrder(draw, m, &w.Book, 3)
	}
	r.Order = o.Id
	switch r.State {
	case 0, 1:
		r.Place = m.Homes[n]
	case 3:
		r.Place, r.Left = m.Picks[o.Pick], 1+draw(m.Load)
	case 4:
		r.Place = m.Picks[o.Pick]
	case 6:
		r.Place, r.Left = m.Drops[o.Drop], 1+draw(m.Unload)
	case 7:
		r.Place = m.Drops[draw(len(m.Drops))]
	default:
		r.Place = draw(len(x.c.Floor.Cells))
	}
	if !r.Due && draw(3) == 0 {
		r.Stall = draw(len(x.c.Slices) + 1)
	}
	return r
}

// drawnSamples returns drawn crews of all scenes, the same in each call.
var drawnSamples = sync.OnceValue(func() []sample {
	var all []sample
	for i, x := range allScenes() {
		for seed := range 150 {
			all = append(all, drawnSample(x, i*1000+seed))
		}
	}
	return all
})

// goodSamples returns valid crews: some that come about, and drawn ones.
func goodSamples(t *testing.T) []sample {
	t.Helper()
	var all []sample
	for i, x := range allScenes() {
		count := 0
		x.history(t, i, true, uint64(i), 160, func(m moment) {
			count++
			if count%11 == 0 {
				all = append(all, sample{x, m.before, m.tick})
			}
		})
	}
	for i, s := range drawnSamples() {
		if i%3 == 0 && specCheck(s.x, s.w, s.tick) == api.OK {
			all = append(all, s)
		}
	}
	return all
}

// The drawn crews are valid often enough, and not always, and have robots in all states.
func TestDrawnCrews(t *testing.T) {
	good, bad := 0, 0
	states := map[uint8]int{}
	for _, s := range drawnSamples() {
		wanted := specCheck(s.x, s.w, s.tick)
		if e := crew.Check(s.x.c, s.x.t, s.w, s.tick); e != wanted {
			t.Errorf("Check of %v at the tick %d of %v: error %d, want %d", s.w, s.tick, s.x, e, wanted)
		}
		if wanted != api.OK {
			bad++
			continue
		}
		good++
		for _, r := range s.w.Robots {
			states[r.State]++
		}
	}
	if good < 500 || bad < 500 {
		t.Errorf("%d crews are valid, %d are not", good, bad)
	}
	for state := range uint8(9) {
		if states[state] < 30 {
			t.Errorf("%d robots have the state %d", states[state], state)
		}
	}
}
