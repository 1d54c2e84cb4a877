package text

import "strings"

// Commands whose words alone count.

func (w *work) succeed() bool { return true }

func (w *work) fail() bool {
	w.status = 1
	return true
}

func (w *work) echo() bool {
	w.put(strings.Join(w.operands, " "), "\n")
	return true
}

func (w *work) basename() bool {
	name := base(w.operands[0])
	if len(w.operands) == 2 && name != w.operands[1] {
		name = strings.TrimSuffix(name, w.operands[1])
	}
	w.put(name, "\n")
	return true
}

func (w *work) dirname() bool {
	w.put(dir(w.operands[0]), "\n")
	return true
}

// base and dir tell what paths.Base and paths.Dir do. They are worked out here, since this layer calls none but the layers 1 to 8 and 15.
func base(path string) string {
	switch s := strings.TrimRight(path, "/"); {
	case s != "":
		return s[strings.LastIndexByte(s, '/')+1:]
	case path != "":
		return "/"
	}
	return "."
}

func dir(path string) string {
	s := strings.TrimRight(path, "/")
	s = strings.TrimRight(s[:strings.LastIndexByte(s, '/')+1], "/")
	switch {
	case s != "":
		return s
	case strings.HasPrefix(path, "/"):
		return "/"
	}
	return "."
}
