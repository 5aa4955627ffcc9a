package deed

import (
	"strongroom/api"
	"strongroom/base"
	"strongroom/cut"
	"strongroom/tag"
)

// grant is what a capability of one kind lets its holder do. The zero value of a kind stands for the kind itself: it has its word, and as many parts.
type grant interface {
	word() string                     // what the text calls the kind
	parts() []string                  // what stands behind the word
	from(parts []part) (grant, error) // one of the same kind, out of as many parts
	may() bool                        // whether there are such files
	weaken() (grant, error)           // what can be given away to check the file
	length() int                      // how many bytes the file has
}

// kinds gives each kind once.
func kinds() []grant { return []grant{reader{}, verifier{}, literal{}} }

// stock is what a capability tells of shares, whoever holds it: what binds them, and their shape.
type stock struct {
	ueb             api.Digest
	k, n, seg, size int
}

func (s stock) parts() []string {
	texts := []string{base.Letters(s.ueb[:])}
	for _, x := range [...]int{s.k, s.n, s.seg, s.size} {
		// Numbers of a shape are not below nought.
		text, _ := base.Number(x)
		texts = append(texts, text)
	}
	return texts
}

func (s stock) may() bool {
	_, e := cut.Again(s.k, s.n, s.seg, s.size)
	return e == api.OK
}

func (s stock) length() int { return s.size }

// stockFrom reads what tells of shares.
func stockFrom(parts []part) (stock, error) {
	ueb, err := parts[0].letters(len(api.Digest{}), len(api.Digest{}))
	if err != nil {
		return stock{}, err
	}
	var four [4]int
	for i, most := range [...]int{api.MaxN, api.MaxN, api.MaxSeg + api.MaxN, api.MaxFile} {
		if four[i], err = parts[1+i].number(most); err != nil {
			return stock{}, err
		}
	}
	return stock{ueb: api.Digest(ueb), k: four[0], n: four[1], seg: four[2], size: four[3]}, nil
}

// reader grants to read a file.
type reader struct {
	key api.Key
	stock
}

func (r reader) word() string { return "read" }

func (r reader) parts() []string { return append([]string{base.Letters(r.key[:])}, r.stock.parts()...) }

func (r reader) from(parts []part) (grant, error) {
	key, err := parts[0].letters(len(r.key), len(r.key))
	if err != nil {
		return nil, err
	}
	s, err := stockFrom(parts[1:])
	return reader{key: api.Key(key), stock: s}, err
}

func (r reader) weaken() (grant, error) {
	return verifier{index: tag.Index(r.key), stock: r.stock}, nil
}

// verifier grants to check a file's shares and to repair them.
type verifier struct {
	index api.Index
	stock
}

func (v verifier) word() string { return "verify" }

func (v verifier) parts() []string {
	return append([]string{base.Letters(v.index[:])}, v.stock.parts()...)
}

func (v verifier) from(parts []part) (grant, error) {
	index, err := parts[0].letters(len(v.index), len(v.index))
	if err != nil {
		return nil, err
	}
	s, err := stockFrom(parts[1:])
	return verifier{index: api.Index(index), stock: s}, err
}

func (v verifier) weaken() (grant, error) { return v, nil }

// literal is the file itself: it has no shares that could be checked.
type literal struct{ file []byte }

func (l literal) word() string { return "lit" }

func (l literal) parts() []string { return []string{base.Letters(l.file)} }

func (l literal) from(parts []part) (grant, error) {
	file, err := parts[0].letters(0, api.MaxLit)
	return literal{file: file}, err
}

func (l literal) may() bool { return cut.Literal(len(l.file)) }

func (l literal) weaken() (grant, error) { return nil, api.ErrCap }

func (l literal) length() int { return len(l.file) }
