package tests

import (
	"bytes"
	"fmt"

	"loop.example/g00365/impl"
)

// Checks told a second time: what may be by status, what becomes of one by cases, moments one by one.

func modelCheckOk(c impl.Check) bool {
	if !modelKey(c.Name) || !isIn(c.Ttl, 0, 1000) || !isIn(c.Age, 0, 1000) || !isIn(c.Most, 1, 5) {
		return false
	}
	heard := c.Ttl == 0 || c.Age < c.Ttl
	switch c.Status {
	case 0:
		return heard && c.Fails == 0
	case 1:
		return heard && isIn(c.Fails, 0, c.Most)
	case 2:
		return isIn(c.Fails, 0, c.Most)
	}
	return false
}

func modelCheckNew(name []byte, ttl, most int) (impl.Check, bool) {
	if !modelKey(name) || !isIn(ttl, 0, 1000) || !isIn(most, 1, 5) {
		return impl.Check{}, false
	}
	return impl.Check{Name: name, Ttl: ttl, Most: most, Status: 2}, true
}

func modelCheckPass(c impl.Check) (impl.Check, bool) {
	if !modelCheckOk(c) {
		return impl.Check{}, false
	}
	return impl.Check{Name: c.Name, Ttl: c.Ttl, Most: c.Most}, c.Status > 0
}

func modelCheckFail(c impl.Check) (impl.Check, bool) {
	if !modelCheckOk(c) {
		return impl.Check{}, false
	}
	is := c
	if is.Fails < is.Most {
		is.Fails++
	}
	switch {
	case c.Status == 2:
	case is.Fails == is.Most:
		is.Status = 2
	default:
		is.Status = 1
	}
	return is, is.Status != c.Status
}

func modelCheckTick(c impl.Check, n int) (impl.Check, bool) {
	if !modelCheckOk(c) || n < 0 {
		return impl.Check{}, false
	}
	is := c
	for range min(n, 1000) {
		if is.Ttl > 0 && is.Age < 1000 {
			is.Age++
		}
		if is.Ttl > 0 && is.Age >= is.Ttl {
			is.Status = 2
		}
	}
	return is, is.Status != c.Status
}

func modelWorst(l []impl.Check) int {
	seen := [3]bool{0: true}
	for _, c := range l {
		if !modelCheckOk(c) {
			return 2
		}
		seen[c.Status] = true
	}
	if seen[2] {
		return 2
	}
	if seen[1] {
		return 1
	}
	return 0
}

// sameCheck is same for checks, of which sweeps hold many against each other.
func sameCheck(a, b impl.Check) bool {
	return bytes.Equal(a.Name, b.Name) && a.Ttl == b.Ttl && a.Most == b.Most && a.Status == b.Status && a.Age == b.Age && a.Fails == b.Fails
}

// checkText writes a check down: Name, Age of Ttl, Fails of Most, Status.
func checkText(c impl.Check) string {
	return fmt.Sprintf("%.30q age %d/%d fails %d/%d status %d", c.Name, c.Age, c.Ttl, c.Fails, c.Most, c.Status)
}

// checked answers a check with the Name c.
func checked(ttl, most, status, age, fails int) impl.Check {
	return impl.Check{Name: []byte("c"), Ttl: ttl, Most: most, Status: status, Age: age, Fails: fails}
}

// named answers c with this Name.
func named(name string, c impl.Check) impl.Check {
	c.Name = []byte(name)
	return c
}
