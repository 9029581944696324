package gas

const (
	wordBytes = 32
	mostBytes = 1 << 32 // up to here no cost leaves 64 bits
	beyond    = 1 << 62 // of more bytes: so much that nobody can pay it

	memoryGas  = 3 // for each word; more where there are many
	memoryPart = 512

	hashGas     = 30
	hashWordGas = 6
	copyWordGas = 3

	logGas     = 375
	topicGas   = 375
	logByteGas = 8
	mostTopics = 4
)

// Words: how many words n bytes take.
func Words(n uint64) uint64 {
	if n > mostBytes {
		return beyond
	}
	return (n + wordBytes - 1) / wordBytes
}

// Memory: of a memory of n bytes, from the first on.
func Memory(n uint64) uint64 {
	if n > mostBytes {
		return beyond
	}
	w := Words(n)
	return memoryGas*w + w*w/memoryPart
}

// Hash: of a hash of n bytes.
func Hash(n uint64) uint64 {
	if n > mostBytes {
		return beyond
	}
	return hashGas + hashWordGas*Words(n)
}

// Copy: of n bytes that are copied.
func Copy(n uint64) uint64 {
	if n > mostBytes {
		return beyond
	}
	return copyWordGas * Words(n)
}

// Log: of a log with so many topics and n bytes.
func Log(topics int, n uint64) uint64 {
	if n > mostBytes {
		return beyond
	}
	count := uint64(min(max(topics, 0), mostTopics))
	return logGas + topicGas*count + logByteGas*n
}

// Create: of a contract that is made by a first code of n bytes; hashed, if its address hangs on that code.
func Create(n uint64, hashed bool) uint64 {
	if n > mostBytes {
		return beyond
	}
	cost := createGas + initGas*Words(n)
	if hashed {
		cost += hashWordGas * Words(n)
	}
	return cost
}
