// Package opts is layer 1: options of a command. See doc/01-opts.md.
package opts

import "toolchest/api"

// manner is how an option is told. The zero value is for letters that are no option, so that a map's answer for a letter it does not hold says just that.
type manner int

const (
	unknown manner = iota
	alone
	withWord
)

// maxDigits keeps a number's value within an int of 64 bits: no sum of ten times a value and a digit can wrap round.
const maxDigits = 18

// Parse: the options of a command's words, by which there are; what is left. (P1.1)
func Parse(which string, args []string) ([]api.Flag, []string, api.Errno) {
	manners, ok := readWhich(which)
	if !ok {
		return nil, nil, api.ErrArg
	}
	if len(args) > api.MaxArgs {
		return nil, nil, api.ErrLimit
	}
	at := 0
	next := func() (string, bool) {
		if at == len(args) {
			return "", false
		}
		at++
		return args[at-1], true
	}
	var flags []api.Flag
words:
	for {
		word, there := next()
		if !there || word == "--" {
			break
		}
		if !tellsOptions(word) {
			at-- // the word that ends the options is itself left
			break
		}
		for i := 1; i < len(word); i++ {
			letter := word[i]
			switch manners[letter] {
			case alone:
				flags = append(flags, api.Flag{Letter: letter})
			case withWord:
				arg := word[i+1:]
				if arg == "" {
					arg, there = next()
				}
				if !there {
					return nil, nil, api.ErrUsage
				}
				flags = append(flags, api.Flag{Letter: letter, Arg: arg})
				continue words
			default:
				return nil, nil, api.ErrUsage
			}
		}
	}
	// Appended to nil, for the answer may share no memory with args.
	return flags, append([]string(nil), args[at:]...), api.OK
}

// readWhich: how each option is told; false: the text does not tell options.
func readWhich(which string) (map[byte]manner, bool) {
	manners := map[byte]manner{}
	for i := 0; i < len(which); i++ {
		letter := which[i]
		if !isLetter(letter) && !isDigit(letter) || manners[letter] != unknown {
			return nil, false
		}
		manners[letter] = alone
		if i+1 < len(which) && which[i+1] == ':' {
			manners[letter] = withWord
			i++
		}
	}
	return manners, true
}

func tellsOptions(word string) bool { return len(word) > 1 && word[0] == '-' }

func isLetter(c byte) bool { return 'A' <= c && c <= 'Z' || 'a' <= c && c <= 'z' }

func isDigit(c byte) bool { return '0' <= c && c <= '9' }

// Has: was an option told? How often? (P1.2)
func Has(l []api.Flag, letter byte) int {
	n := 0
	for _, f := range l {
		if f.Letter == letter {
			n++
		}
	}
	return n
}

// Last: what was told with an option the last time; false: it was not told. (P1.2)
func Last(l []api.Flag, letter byte) (string, bool) {
	for i := len(l) - 1; i >= 0; i-- {
		if l[i].Letter == letter {
			return l[i].Arg, true
		}
	}
	return "", false
}

// Number: of a word; false: it is none. (P1.3)
func Number(s string) (int, bool) {
	digits, sign := s, 1
	if s != "" && (s[0] == '-' || s[0] == '+') {
		digits = s[1:]
		if s[0] == '-' {
			sign = -1
		}
	}
	if len(digits) < 1 || len(digits) > maxDigits {
		return 0, false
	}
	value := 0
	for i := 0; i < len(digits); i++ {
		if !isDigit(digits[i]) {
			return 0, false
		}
		value = value*10 + int(digits[i]-'0')
	}
	return sign * value, true
}
