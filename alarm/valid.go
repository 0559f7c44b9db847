package alarm

import "icehall/api"

// isGas returns whether a number can be a concentration.
func isGas(n int) bool { return 0 <= n && n <= api.MaxGas }

// validMinutes returns whether minutes can be asked for.
func validMinutes(from, to int) bool { return 0 <= from && from <= to && to <= api.MaxMinutes }

// validSearch returns whether thresholds can be looked for.
func validSearch(limit, rise, calm, from, to int) bool {
	return isGas(limit) && isGas(rise) && isGas(calm) && validMinutes(from, to)
}

// validVoting returns whether a voting is valid.
func validVoting(v api.Voting) bool {
	n := len(v.Sensors)
	if n < 1 || n > api.MaxGasSensors {
		return false
	}
	for _, s := range v.Sensors {
		if !validSensor(s) {
			return false
		}
	}
	return 1 <= v.Votes && v.Votes <= n && 0 <= v.Failed && v.Failed <= n
}

// validSensor returns whether a sensor is valid.
func validSensor(s api.Sensor) bool {
	return 0 <= s.First && s.First <= api.MaxMinutes &&
		1 <= s.Every && s.Every <= api.MaxEvery && isGas(s.Err)
}
