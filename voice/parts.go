package voice

import (
	"slices"

	"theorbo/api"
	"theorbo/ints"
	"theorbo/tones"
)

// Parts returns the voices of an assignment as parts.
func Parts(notes []api.Note, voices []int, n int) ([][]api.Tone, api.Errno) {
	if e := CheckNotes(notes); e != api.OK {
		return nil, e
	}
	if len(voices) != len(notes) || !ints.Within(n, 1, api.MaxVoices) {
		return nil, api.ErrArg
	}
	if !apart(notes, voices, n) {
		return nil, api.ErrVoice
	}
	parts := make([][]api.Tone, n)
	for i, note := range notes {
		part := parts[voices[i]-1]
		if len(part) > 0 {
			before := &part[len(part)-1]
			before.To = min(before.To, note.From)
		}
		parts[voices[i]-1] = append(part, api.Tone{Pitch: note.Pitch, From: note.From, To: note.To})
	}
	return parts, api.OK
}

// apart reports whether all numbers are from 1 to n, and those of the notes of one event different.
func apart(notes []api.Note, voices []int, n int) bool {
	for i, voice := range voices {
		if !ints.Within(voice, 1, n) {
			return false
		}
		for j := i - 1; j >= 0 && notes[j].Event == notes[i].Event; j-- {
			if voices[j] == voice {
				return false
			}
		}
	}
	return true
}

// Sounds returns the tones of all parts, in order.
func Sounds(parts [][]api.Tone) ([]api.Tone, api.Errno) {
	if e := CheckParts(parts); e != api.OK {
		return nil, e
	}
	all := slices.Concat(parts...)
	slices.SortFunc(all, tones.Compare)
	return all, api.OK
}

// Ambitus returns the lowest and the highest pitch of a part.
func Ambitus(part []api.Tone) (low, high int, e api.Errno) {
	if e := checkPart(part); e != api.OK {
		return 0, 0, e
	}
	if len(part) == 0 {
		return 0, 0, api.ErrNone
	}
	low, high = part[0].Pitch, part[0].Pitch
	for _, t := range part {
		low, high = min(low, t.Pitch), max(high, t.Pitch)
	}
	return low, high, api.OK
}
