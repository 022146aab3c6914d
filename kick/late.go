package kick

import "moonpool/api"

// delay is the latest alarm of a sensor: the phase of its samples, the number of the first one that is high for certain, and the ticks from the beginning of the kick.
type delay struct {
	phase, number, ticks int64
}

// latest returns the latest alarm of a valid sensor for a valid kick, if there is one.
func latest(s api.Sensor, k api.Kick) (delay, bool) {
	says := channel(s, k)
	late := delay{ticks: -1}
phases:
	for phase := range s.Period {
		for number := int64(0); phase+number*s.Period <= api.MaxWait; number++ {
			if says(phase+number*s.Period)-s.Noise*s.Step < s.Limit {
				continue
			}
			ticks := phase + (number+s.Hold*(s.Lost+1)-1)*s.Period + s.Delay
			if ticks > late.ticks {
				late = delay{phase: phase, number: number, ticks: ticks}
			}
			continue phases
		}
		// A sample that is high after so long makes an alarm that counts as none.
		return delay{}, false
	}
	return late, late.ticks <= api.MaxWait
}

// Late returns the latest alarm of a sensor for a kick.
func Late(s api.Sensor, k api.Kick) (int64, bool) {
	if CheckSensor(s) != api.OK || CheckKick(k) != api.OK {
		return 0, false
	}
	late, ok := latest(s, k)
	if !ok {
		return 0, false
	}
	return late.ticks, true
}

// soonest returns the least one of the latest alarms of valid sensors.
func soonest(l []api.Sensor, k api.Kick) (int64, api.Errno) {
	best := int64(-1)
	for _, s := range l {
		if late, ok := latest(s, k); ok && (best < 0 || late.ticks < best) {
			best = late.ticks
		}
	}
	if best < 0 {
		return 0, api.ErrLate
	}
	return best, api.OK
}

// Latest returns the latest alarm of sensors for a set of kicks.
func Latest(l []api.Sensor, x api.Kicks) (int64, api.Errno) {
	if e := CheckSensors(l); e != api.OK {
		return 0, e
	}
	if e := CheckKicks(x); e != api.OK {
		return 0, e
	}
	return soonest(l, least(x))
}

// Caught returns when sensors notice a kick at the latest, and how much has flowed in then.
func Caught(l []api.Sensor, k api.Kick) (ticks, gain int64, e api.Errno) {
	if e := CheckSensors(l); e != api.OK {
		return 0, 0, e
	}
	if e := CheckKick(k); e != api.OK {
		return 0, 0, e
	}
	ticks, e = soonest(l, k)
	if e != api.OK {
		return 0, 0, e
	}
	return ticks, course{k}.gain(ticks), api.OK
}

// Slow returns samples with which a sensor alarms as late as it can.
func Slow(s api.Sensor, k api.Kick) ([]api.Sample, bool) {
	if CheckSensor(s) != api.OK || CheckKick(k) != api.OK {
		return nil, false
	}
	late, ok := latest(s, k)
	if !ok || late.number+s.Hold > api.MaxSamples {
		return nil, false
	}
	var l []api.Sample
	add := func(number int64) {
		tick := late.phase + number*s.Period
		l = append(l, api.Sample{Tick: tick, Value: Value(s, k, tick, -s.Noise)})
	}
	for number := range late.number {
		add(number)
	}
	for j := range s.Hold {
		add(late.number + (j+1)*(s.Lost+1) - 1)
	}
	return l, true
}

// False returns how many sequences of errors make a sensor alarm without a kick, and how many there are.
func False(s api.Sensor, draws int) (alarms, all int64, e api.Errno) {
	if e := CheckSensor(s); e != api.OK {
		return 0, 0, e
	}
	if draws < 1 || draws > api.MaxDraws {
		return 0, 0, api.ErrRange
	}
	values, high := 2*s.Noise+1, int64(0)
	for n := -s.Noise; n <= s.Noise; n++ {
		if n*s.Step >= s.Limit {
			high++
		}
	}
	// rows counts the sequences by how many high samples they end with; those that made an alarm are counted at Hold.
	var rows [api.MaxHold + 1]int64
	rows[0], all = 1, 1
	for range draws {
		var next [api.MaxHold + 1]int64
		next[s.Hold] = rows[s.Hold] * values
		for row := range s.Hold {
			next[row+1] += rows[row] * high
			next[0] += rows[row] * (values - high)
		}
		rows = next
		all *= values
	}
	return rows[s.Hold], all, api.OK
}
