package order

// sorted are the members of a list, sorted; a list of less than two is told as it is.
func sorted[T any](l []T, compare func(a, b T) int) []T {
	if len(l) < 2 {
		return l
	}
	half := len(l) / 2
	return merged(sorted(l[:half], compare), sorted(l[half:], compare), compare)
}

// merged are the members of two sorted lists, sorted; of the same ones those of the first list come first.
func merged[T any](a, b []T, compare func(a, b T) int) []T {
	out := make([]T, 0, len(a)+len(b))
	for len(a) > 0 && len(b) > 0 {
		if compare(b[0], a[0]) < 0 {
			out, b = append(out, b[0]), b[1:]
		} else {
			out, a = append(out, a[0]), a[1:]
		}
	}
	return append(append(out, a...), b...)
}
