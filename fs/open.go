package fs

import "levee/api"

// Open lets a file be open by the least number that is free.
func (f *Fs) Open(path string) (int, api.Errno) {
	slot, e := f.walk(path, true)
	if e != api.OK {
		return 0, e
	}
	return f.nodes.Open(slot)
}

// Close lets nothing be open by a number.
func (f *Fs) Close(fd int) api.Errno {
	return f.Nodes().Close(fd)
}

// Read answers at most n bytes of what is open by a number, from off on.
func (f *Fs) Read(fd int, off int64, n int) ([]byte, api.Errno) {
	slot, e := f.Nodes().Slot(fd)
	if e != api.OK {
		return nil, e
	}
	return f.files.Read(slot, off, n)
}

// Write gives what is open by a number other bytes, from off on.
func (f *Fs) Write(fd int, off int64, b []byte) api.Errno {
	slot, e := f.Nodes().Slot(fd)
	if e != api.OK {
		return e
	}
	return f.files.Write(slot, off, b)
}

// Truncate gives what is open by a number another size.
func (f *Fs) Truncate(fd int, size int64) api.Errno {
	slot, e := f.Nodes().Slot(fd)
	if e != api.OK {
		return e
	}
	return f.files.Resize(slot, size)
}

// Fstat tells of what is open by a number.
func (f *Fs) Fstat(fd int) (api.Stat, api.Errno) {
	slot, e := f.Nodes().Slot(fd)
	if e != api.OK {
		return api.Stat{}, e
	}
	return f.nodes.Stat(slot)
}
