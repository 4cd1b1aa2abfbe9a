package resp

import (
	"strings"

	"haversack/api"
)

func rightTag(tag string) bool {
	if tag == star || tag == goOn {
		return true
	}
	return tag != "" && only(tag, letter) && !strings.ContainsAny(tag, star+goOn)
}

// rightText tells whether a line may have its text. One that begins with [ would be read as a code.
func rightText(l api.Line) bool {
	return only(l.Text, plain) && (len(l.Code) > 0 || !strings.HasPrefix(l.Text, "["))
}

// someRight tells whether values are all of a line behind its tag.
func someRight(l ...api.Val) bool {
	return len(l) > 0 && !(l[0].Kind == api.ValAtom && isStatus(l[0].Text)) && rightValues(0, l...)
}

// rightValues tells whether values that so many lists and sections stand around are right.
func rightValues(around int, l ...api.Val) bool {
	for _, v := range l {
		if !rightValue(around, v) {
			return false
		}
	}
	return true
}

func rightValue(around int, v api.Val) bool {
	if !bare(v) {
		return false
	}
	switch v.Kind {
	case api.ValNil, api.ValString:
		return true
	case api.ValNumber:
		return v.N >= 0
	case api.ValAtom:
		return isAtom(v.Text)
	case api.ValList:
		return rightKids(around, v)
	case api.ValSection:
		return isAtom(v.Text) && rightFrom(v.From...) && rightKids(around, v)
	}
	return false
}

// bare tells whether all that a value's kind does not have is zero.
func bare(v api.Val) bool {
	section := v.Kind == api.ValSection
	kids := section || v.Kind == api.ValList
	text := section || v.Kind == api.ValAtom || v.Kind == api.ValString
	return (text || v.Text == "") && (v.Kind == api.ValNumber || v.N == 0) && (kids || len(v.Kids) == 0) && (section || len(v.From) == 0)
}

func rightKids(around int, v api.Val) bool {
	return around < api.MaxVals && rightValues(around+1, v.Kids...)
}

func rightFrom(from ...int) bool {
	return len(from) == 0 || len(from) == 1 && from[0] >= 0
}
