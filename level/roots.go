package level

import "exchequer/api"

// roots are the Roots of tables, by which one and the same is known.
type roots map[api.Ref]struct{}

func rootsOf(l []api.Run) roots {
	s := roots{}
	for _, r := range l {
		s[r.Root] = struct{}{}
	}
	return s
}

func (s roots) has(r api.Run) bool {
	_, is := s[r.Root]
	return is
}

func (s roots) haveAll(l []api.Run) bool {
	for _, r := range l {
		if !s.has(r) {
			return false
		}
	}
	return true
}
