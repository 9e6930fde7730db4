package frames

import "testing"

// P7.2: the frames of a stream are gone through only as far as they are asked for.
func TestFramesOf(t *testing.T) {
	stream := []byte{71, 1, 0, 1, 97, 71, 1, 0, 2, 98, 99, 71}
	for most := 1; most <= 3; most++ {
		var rests []string
		for payload, rest := range framesOf(stream) {
			rests = append(rests, string(payload)+"/"+string(rest))
			if len(rests) == most {
				break
			}
		}
		want := []string{"a/G\x01\x00\x02bcG", "bc/G"}[:min(most, 2)]
		if len(rests) != len(want) || rests[0] != want[0] || rests[len(rests)-1] != want[len(want)-1] {
			t.Errorf("up to %d frames: %q", most, rests)
		}
	}
}
