package packages

func isDigit(c byte) bool { return '0' <= c && c <= '9' }

func isSmall(c byte) bool { return 'a' <= c && c <= 'z' }

func isLetter(c byte) bool { return isSmall(c) || 'A' <= c && c <= 'Z' }
