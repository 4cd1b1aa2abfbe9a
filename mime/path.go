package mime

import "haversack/api"

// at is the part at a path, if there is one.
func at(whole api.Part, path []int) (api.Part, bool) {
	p := whole
	asked, is := whole, true
	for _, n := range path {
		if is {
			p, is = numbered(asked, n)
		}
		if !is {
			return api.Part{}, false
		}
		asked, is = within(p)
	}
	return p, true
}

// numbered is what a number says of the part that it is asked of.
func numbered(p api.Part, n int) (api.Part, bool) {
	if !parted(p) {
		return p, n == 1
	}
	if n < 1 || n > len(p.Kids) {
		return api.Part{}, false
	}
	return p.Kids[n-1], true
}

// within is what the number behind a part is asked of.
func within(p api.Part) (api.Part, bool) {
	if parted(p) {
		return p, true
	}
	return mailed(p)
}

// parted tells of a multipart with kids.
func parted(p api.Part) bool { return multipart(p) && len(p.Kids) > 0 }

// mailed is the message that a part is about, if it is about one.
func mailed(p api.Part) (api.Part, bool) {
	if !letter(p) || len(p.Kids) == 0 {
		return api.Part{}, false
	}
	return p.Kids[0], true
}

// headed is the message whose header and content are asked for at a path.
func headed(p api.Part, path []int) (api.Part, bool) {
	if len(path) == 0 {
		return p, true
	}
	return mailed(p)
}

// body is what is told of a part if nothing of it is named: of the whole message its header, too.
func (m message) body(p api.Part, path []int) string {
	if len(path) == 0 {
		return m.text
	}
	return m.content(p)
}
