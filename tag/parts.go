package tag

import "strongroom/api"

// bound tells whether a part may have so many bytes.
type bound func(size int) bool

func just(n int) bound { return func(size int) bool { return size == n } }

func most(n int) bound { return func(size int) bool { return size <= n } }

func whatever() bound { return func(int) bool { return true } }

// bounds gives what the parts of a tag may be, one for each of them; nothing, if there is no such tag.
func bounds(t api.Tag) []bound {
	const (
		digest = len(api.Digest{})
		number = 4
	)
	switch t {
	case api.TagKey:
		return []bound{most(api.MaxSecret), just(paramsSize), most(api.MaxFile)}
	case api.TagIndex:
		return []bound{just(len(api.Key{}))}
	case api.TagBlock, api.TagSegment, api.TagUeb:
		return []bound{whatever()}
	case api.TagRoot:
		return []bound{just(digest)}
	case api.TagNode:
		return []bound{just(digest), just(digest)}
	case api.TagPad:
		return []bound{just(number)}
	case api.TagRing:
		return []bound{just(len(api.Index{})), just(number)}
	}
	return nil
}

// fit tells whether these are such parts as a tag has.
func fit(t api.Tag, parts ...[]byte) bool {
	may := bounds(t)
	if len(parts) != len(may) {
		return false
	}
	for i, part := range parts {
		if !may[i](len(part)) {
			return false
		}
	}
	return true
}
