package route

// stop is a place at a tick. Only the tick's place in the period is kept, since one period later all is the same.
type stop struct{ place, phase int }

// table has a value for each stop of a floor and a period.
type table[T any] struct {
	period int
	values []T
}

// tableOf returns the table of a function's values.
func tableOf[T any](places, period int, value func(s stop) T) table[T] {
	a := table[T]{period: period, values: make([]T, places*period)}
	for p := range places {
		for phase := range period {
			s := stop{p, phase}
			a.put(s, value(s))
		}
	}
	return a
}

// at returns the value of a stop.
func (a table[T]) at(s stop) T { return a.values[s.place*a.period+s.phase] }

// put stores the value of a stop.
func (a table[T]) put(s stop, value T) { a.values[s.place*a.period+s.phase] = value }
