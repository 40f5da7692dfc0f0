package impl

// Kinds of values.
const (
	KindNone  = 0
	KindNum   = 1
	KindText  = 2
	KindTruth = 3
)

// MaxNumber is the greatest number.
const MaxNumber = 9999

// MaxText is the maximum number of bytes of a text.
const MaxText = 6

// Value has a kind, a number and a text.
type Value struct {
	Kind int
	N    int
	S    string
}

// ValueOk reports whether a value is KindNone with the number 0 and no text, KindNum with a number in -MaxNumber..MaxNumber and no text, KindText with the number 0 and a text of at most MaxText small letters, or KindTruth with the number 0 or 1 and no text.
func ValueOk(v Value) bool {
	switch v.Kind {
	case KindNone:
		return v.N == 0 && v.S == ""
	case KindNum:
		return numberOk(v.N) && v.S == ""
	case KindText:
		return v.N == 0 && len(v.S) <= MaxText && lettersOnly(v.S)
	case KindTruth:
		return (v.N == 0 || v.N == 1) && v.S == ""
	}
	return false
}

// ValueOrder returns -1 if a value comes ahead of another one, 1 if it comes behind it, and 0 if both are the same (ValueOk): by their kinds first, then by their numbers, then by their texts; 0 for others.
func ValueOrder(a Value, b Value) int {
	if !ValueOk(a) || !ValueOk(b) || a == b {
		return 0
	}
	if valueAhead(a, b) {
		return -1
	}
	return 1
}

// ValueText returns "none" for KindNone, the number in decimal for KindNum, the text between two signs ' for KindText, and "true" or "false" for KindTruth (ValueOk); the empty text for others.
func ValueText(v Value) string {
	if !ValueOk(v) {
		return ""
	}
	switch v.Kind {
	case KindNum:
		return numberText(v.N)
	case KindText:
		return "'" + v.S + "'"
	case KindTruth:
		return truthText(v.N)
	}
	return "none"
}

// ValueRead returns the value whose ValueText is a text, and true; the zero value and false if there is none.
func ValueRead(s string) (Value, bool) {
	switch s {
	case "none":
		return Value{}, true
	case "false":
		return Value{Kind: KindTruth, N: 0}, true
	case "true":
		return Value{Kind: KindTruth, N: 1}, true
	}
	if len(s) > 0 && s[0] == '\'' {
		return quotedRead(s)
	}
	n, ok := numberRead(s)
	if !ok {
		return Value{}, false
	}
	return Value{Kind: KindNum, N: n}, true
}

// ValueBytes returns the bytes of a value (ValueOk): its kind; for KindNum the number and 10000, the greater of two bytes first; for KindText the number of bytes of the text, and these; for KindTruth the number; nil for others.
func ValueBytes(v Value) []byte {
	if !ValueOk(v) {
		return nil
	}
	b := []byte{byte(v.Kind)}
	switch v.Kind {
	case KindNum:
		n := v.N + numberShift
		b = append(b, byte(n/256), byte(n%256))
	case KindText:
		b = append(b, byte(len(v.S)))
		b = append(b, v.S...)
	case KindTruth:
		b = append(b, byte(v.N))
	}
	return b
}

// ValueFrom returns the value whose ValueBytes a list of bytes begins with, and how many they are; the zero value and 0 if there is none.
func ValueFrom(b []byte) (Value, int) {
	v, n := valueTaken(b)
	if n == 0 || !ValueOk(v) {
		return Value{}, 0
	}
	return v, n
}

// numberShift is added to a number before it becomes bytes, so that no sign is left to write.
const numberShift = 10000

func numberOk(n int) bool {
	return n >= -MaxNumber && n <= MaxNumber
}

func lettersOnly(s string) bool {
	for i := 0; i < len(s); i++ {
		if s[i] < 'a' || s[i] > 'z' {
			return false
		}
	}
	return true
}

// valueAhead is asked of values that are ok and differ.
func valueAhead(a Value, b Value) bool {
	if a.Kind != b.Kind {
		return a.Kind < b.Kind
	}
	if a.N != b.N {
		return a.N < b.N
	}
	return a.S < b.S
}

func truthText(n int) string {
	if n == 1 {
		return "true"
	}
	return "false"
}

// numberText works on the negative number, since the least int has no positive one. The loop ends because what is left has a digit less each time.
func numberText(n int) string {
	if n == 0 {
		return "0"
	}
	left := n
	if n > 0 {
		left = -n
	}
	s := ""
	for left != 0 {
		s = string([]byte{byte('0' - left%10)}) + s
		left = left / 10
	}
	if n < 0 {
		return "-" + s
	}
	return s
}

// maxDigits bounds a text before it is read as a number, so that no sum can overflow.
const maxDigits = 4

// numberRead reads the text of a number within -MaxNumber..MaxNumber. Writing the number back turns away bytes that are no digits, leading zeros, "-0" and texts without a digit.
func numberRead(s string) (int, bool) {
	first := 0
	if len(s) > 0 && s[0] == '-' {
		first = 1
	}
	if len(s) > first+maxDigits {
		return 0, false
	}
	n := 0
	for i := first; i < len(s); i++ {
		n = n*10 + int(s[i]) - '0'
	}
	if first == 1 {
		n = -n
	}
	if !numberOk(n) || numberText(n) != s {
		return 0, false
	}
	return n, true
}

func quotedRead(s string) (Value, bool) {
	if len(s) < 2 || s[len(s)-1] != '\'' {
		return Value{}, false
	}
	v := Value{Kind: KindText, S: s[1 : len(s)-1]}
	if !ValueOk(v) {
		return Value{}, false
	}
	return v, true
}

// valueTaken only lays bytes out as a value: whether that is one is left to ValueOk.
func valueTaken(b []byte) (Value, int) {
	if len(b) == 0 {
		return Value{}, 0
	}
	switch int(b[0]) {
	case KindNone:
		return Value{}, 1
	case KindNum:
		if len(b) < 3 {
			return Value{}, 0
		}
		return Value{Kind: KindNum, N: int(b[1])*256 + int(b[2]) - numberShift}, 3
	case KindText:
		return textTaken(b)
	case KindTruth:
		if len(b) < 2 {
			return Value{}, 0
		}
		return Value{Kind: KindTruth, N: int(b[1])}, 2
	}
	return Value{}, 0
}

func textTaken(b []byte) (Value, int) {
	if len(b) < 2 {
		return Value{}, 0
	}
	end := 2 + int(b[1])
	if end > 2+MaxText || len(b) < end {
		return Value{}, 0
	}
	return Value{Kind: KindText, S: string(b[2:end])}, end
}
