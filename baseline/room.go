package baseline

import "agonic/api"

// far is a bound of what absolutes say of any hour.
const far = MaxValue + MaxDrift*MaxHour

// room is the values that a baseline without steps can have at an hour.
type room struct {
	sheet Sheet
	hour  int
	span  api.Span
}

// open returns the room at an hour before any absolute is known.
func (s Sheet) open(hour int) room {
	return room{sheet: s, hour: hour, span: api.Span{Lo: -far, Hi: far}}
}

// cut leaves of a room what an absolute of any hour allows, and reports whether something is left.
func (r *room) cut(a Absolute) bool {
	allowed := r.sheet.drifted(a, r.hour)
	r.span.Lo = max(r.span.Lo, allowed.Lo)
	r.span.Hi = min(r.span.Hi, allowed.Hi)
	return r.span.Lo <= r.span.Hi
}

// follow moves a room to the hour of a later absolute, and cuts it there.
func (r *room) follow(a Absolute) bool {
	r.span = r.sheet.drifted(Absolute{Hour: r.hour, Value: r.span}, a.Hour)
	r.hour = a.Hour
	return r.cut(a)
}

// drifted returns the values at an hour from which, or to which, a baseline can drift
// if it has one of an absolute's values at the absolute's hour.
func (s Sheet) drifted(a Absolute, hour int) api.Span {
	down, up := s.Fall, s.Rise
	hours := hour - a.Hour
	if hours < 0 {
		down, up, hours = up, down, -hours
	}
	return api.Span{Lo: a.Value.Lo - down*hours, Hi: a.Value.Hi + up*hours}
}

// walk hands absolutes to a function until it refuses one, and returns how many it accepted.
func walk(absolutes []Absolute, accepts func(Absolute) bool) int {
	at := 0
	for {
		if at == len(absolutes) || !accepts(absolutes[at]) {
			goto left
		}
		at++
	}
left:
	return at
}

// stretch returns how many absolutes, from the first one on, have a baseline without steps.
func (s Sheet) stretch(absolutes []Absolute) int {
	r := s.open(0)
	return walk(absolutes, r.follow)
}

// needsStep reports whether there is a step between two absolutes in any case.
func (s Sheet) needsStep(earlier, later Absolute) bool {
	return s.stretch([]Absolute{earlier, later}) < 2
}
