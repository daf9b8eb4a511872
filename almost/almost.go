// Package almost is texts that are nearly others. It is no layer: the layers' tests hold what reads a text to them.
package almost

// Texts tells a text with one byte put in, changed (each by each of the 256), or taken away, at each place, and its parts on both sides of each place.
func Texts(s string) []string {
	var l []string
	for at := range len(s) + 1 {
		l = append(l, s[:at], s[at:])
		l = append(l, put(s[:at], s[at:])...)
	}
	for at := range len(s) {
		l = append(l, s[:at]+s[at+1:])
		l = append(l, put(s[:at], s[at+1:])...)
	}
	return l
}

// put tells the texts that have one byte more between two others.
func put(before, behind string) []string {
	l := make([]string, 256)
	for c := range l {
		l[c] = before + string([]byte{byte(c)}) + behind
	}
	return l
}
