package kick

import (
	"slices"

	"moonpool/api"
	"moonpool/exact"
)

// checkSamples returns the first error of the samples of so many sensors.
func checkSamples(sensors int, samples []api.Sample) api.Errno {
	if len(samples) > api.MaxSamples {
		return api.ErrFull
	}
	for _, x := range samples {
		if x.Sensor < 0 || x.Sensor >= sensors {
			return api.ErrMissing
		}
	}
	for _, x := range samples {
		if !exact.Within(x.Tick, 0, api.MaxTick-api.MaxDelay) || !exact.Within(x.Value, -1<<50, 1<<50) {
			return api.ErrRange
		}
	}
	before := [api.MaxSensors]int64{-1, -1, -1, -1}
	for _, x := range samples {
		if x.Tick <= before[x.Sensor] {
			return api.ErrOrder
		}
		before[x.Sensor] = x.Tick
	}
	return api.OK
}

// merge returns the samples of each sensor, in the order given, and the numbers of these sensors, ascending.
func merge(samples []api.Sample) (map[int][]api.Sample, []int) {
	of := map[int][]api.Sample{}
	for _, x := range samples {
		of[x.Sensor] = append(of[x.Sensor], x)
	}
	var sensors []int
	for n := range of {
		sensors = append(sensors, n)
	}
	slices.Sort(sensors)
	return of, sensors
}

// alarm returns the first tick at which a sensor alarms with its samples.
func alarm(s api.Sensor, samples []api.Sample) (int64, bool) {
	row := int64(0)
	for _, x := range samples {
		row++
		if x.Value < s.Limit {
			row = 0
		}
		if row == s.Hold {
			return x.Tick + s.Delay, true
		}
	}
	return 0, false
}

// Watch returns the first alarm of sensors with samples.
func Watch(l []api.Sensor, samples []api.Sample) (api.Alarm, bool, api.Errno) {
	if e := CheckSensors(l); e != api.OK {
		return api.Alarm{}, false, e
	}
	if e := checkSamples(len(l), samples); e != api.OK {
		return api.Alarm{}, false, e
	}
	var first api.Alarm
	found := false
	of, sensors := merge(samples)
	for _, n := range sensors {
		if tick, ok := alarm(l[n], of[n]); ok && (!found || tick < first.Tick) {
			first, found = api.Alarm{Sensor: n, Tick: tick}, true
		}
	}
	return first, found, api.OK
}

// canBe reports whether a sample may be among the possible ones of a kick, but for the others.
func canBe(s api.Sensor, k api.Kick, begin int64, x api.Sample) bool {
	if !exact.Within(x.Tick, 0, 40000) || x.Tick > begin+maxTicks {
		return false
	}
	says, most := channel(s, k)(x.Tick-begin), s.Noise*s.Step
	return exact.Within(x.Value, says-most, says+most) && (x.Value-says)%s.Step == 0
}

// Possible reports whether samples are possible for a sensor, and a kick that began at a tick.
func Possible(s api.Sensor, k api.Kick, begin int64, samples []api.Sample) bool {
	if CheckSensor(s) != api.OK || CheckKick(k) != api.OK || !exact.Within(begin, 0, 20000) || len(samples) > api.MaxSamples {
		return false
	}
	number := int64(-1) // of the sample before
	for _, x := range samples {
		if x.Sensor != samples[0].Sensor || !canBe(s, k, begin, x) || x.Tick%s.Period != samples[0].Tick%s.Period {
			return false
		}
		if !exact.Within(x.Tick/s.Period-number, 1, s.Lost+1) {
			return false
		}
		number = x.Tick / s.Period
	}
	return true
}
