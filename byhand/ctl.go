package byhand

// Words tells numbers in two bytes each.
func Words(l ...int) string {
	out := ""
	for _, v := range l {
		out += Word(v)
	}
	return out
}

// Value tells the bytes of a value of a control message; its flags and its length share two bytes.
func Value(flags, vendor, kind int, behind string) string {
	return Words(flags+6+len(behind), vendor, kind) + behind
}

// Ctl tells the bytes of a control message.
func Ctl(tunnel, session, ns, nr int, values string) string {
	return "\xc8\x02" + Words(12+len(values), tunnel, session, ns, nr) + values
}
